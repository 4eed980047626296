package tests

import (
	"cmp"
	"math/rand"
	"slices"
	"strconv"
	"strings"
	"testing"

	"loop.example/g00039/impl"
)

const nameBytes = "abcdefghijklmnopqrstuvwxyzABCDEFGHIJKLMNOPQRSTUVWXYZ_0123456789"

// isNameModel and isValueModel say in their own words what a name and a value are.
func isNameModel(s string) bool {
	return len(s) >= 1 && len(s) <= 40 && strings.Trim(s, nameBytes) == "" && strings.Trim(s[:1], "0123456789") != ""
}

func isPrintedModel(s string) bool {
	return !strings.ContainsFunc(s, func(r rune) bool { return r < ' ' || r > '~' })
}

func isValueModel(s string) bool {
	return len(s) >= 1 && len(s) <= 100 && isPrintedModel(s)
}

func goodLabelsModel(l []impl.Label) bool {
	for i, x := range l {
		if !isNameModel(x.Name) || !isValueModel(x.Value) || i > 0 && l[i-1].Name >= x.Name {
			return false
		}
	}
	return len(l) <= 20
}

// escapes is made once, as making it takes longer than what it does.
var escapes = strings.NewReplacer(`"`, `\"`, `\`, `\\`)

func quotedModel(s string) string {
	return `"` + escapes.Replace(s) + `"`
}

func labelsTextModel(l []impl.Label) string {
	out := "{"
	for i, x := range l {
		if i > 0 {
			out += ","
		}
		out += x.Name + "=" + quotedModel(x.Value)
	}
	return out + "}"
}

func matchersTextModel(m []impl.Matcher) string {
	out := "{"
	for i, x := range m {
		if i > 0 {
			out += ","
		}
		out += x.Name + map[int]string{1: "=", 2: "!=", 3: "=~", 4: "!~"}[x.Op] + quotedModel(x.Value)
	}
	return out + "}"
}

// manyLabels are n good labels of rising names.
func manyLabels(n int) []impl.Label {
	var l []impl.Label
	for i := range n {
		l = append(l, impl.Label{Name: "n" + strconv.Itoa(100+i), Value: strconv.Itoa(i)})
	}
	return l
}

func randomOf(r *rand.Rand, bytes string, most int) string {
	b := make([]byte, r.Intn(most+1))
	for i := range b {
		b[i] = bytes[r.Intn(len(bytes))]
	}
	return string(b)
}

// randomLabels are good labels of few names and values, so that two of them are often alike at places.
func randomLabels(r *rand.Rand) []impl.Label {
	var l []impl.Label
	for _, n := range []string{"A", "_", "_name", "a", "a1", "ab", "b"} {
		if r.Intn(2) == 0 {
			l = append(l, impl.Label{Name: n, Value: "x" + randomOf(r, `"\,={}a~`, 2)})
		}
	}
	return l
}

// spare lays a list out with good-looking memory behind its end, and answers that memory too.
func spare[T any](list []T, behind T) ([]T, []T) {
	all := make([]T, len(list)+3)
	copy(all, list)
	for i := len(list); i < len(all); i++ {
		all[i] = behind
	}
	return all[:len(list)], all
}

// badLabels are lists that are not good, each in one way.
func badLabels() [][]impl.Label {
	out := [][]impl.Label{
		manyLabels(21),
		{{Name: "b", Value: "1"}, {Name: "a", Value: "2"}},
		{{Name: "a", Value: "1"}, {Name: "a", Value: "2"}},
		{{Name: "a", Value: "1"}, {Name: "c", Value: "1"}, {Name: "b", Value: "1"}},
		{{Name: "a"}},
		{{Value: "a"}},
		{{}},
		{{Name: strings.Repeat("a", 41), Value: "1"}},
		{{Name: "a", Value: strings.Repeat("v", 101)}},
	}
	for _, n := range []string{"1a", "9", "a b", "a-b", "a.b", "é", "a\x00", "a=", `"`, "a@", "a[", "a`", "a{", "a/", "a:", " a", "a "} {
		out = append(out, []impl.Label{{Name: n, Value: "v"}})
	}
	for _, v := range []string{"\x1f", "\x7f", "\x80", "a\nb", "é", "\xff", "\t", "\x00"} {
		out = append(out, []impl.Label{{Name: "a", Value: v}})
	}
	return out
}

func TestLabelsThatAreGood(t *testing.T) {
	for _, l := range [][]impl.Label{
		nil, {}, manyLabels(20),
		{{Name: "a", Value: "1"}}, {{Name: "_", Value: " "}}, {{Name: "_9", Value: "~"}}, {{Name: "_name", Value: "up"}},
		{{Name: "A", Value: "1"}, {Name: "Z", Value: "1"}, {Name: "_", Value: "1"}, {Name: "a", Value: "1"}, {Name: "aA", Value: "1"}, {Name: "z", Value: "1"}},
		{{Name: strings.Repeat("z", 40), Value: strings.Repeat("~", 100)}},
		{{Name: "a", Value: `"\{}=,`}},
	} {
		if !impl.GoodLabels(l) || !goodLabelsModel(l) {
			t.Errorf("not good: %q", l)
		}
	}
	for _, l := range badLabels() {
		if impl.GoodLabels(l) || goodLabelsModel(l) {
			t.Errorf("good: %q", l)
		}
	}
	for c := range 256 {
		s := string([]byte{byte(c)})
		for _, n := range []string{s, "a" + s, s + "a"} {
			if got := impl.GoodLabels([]impl.Label{{Name: n, Value: "v"}}); got != isNameModel(n) {
				t.Errorf("name %q: %v", n, got)
			}
		}
		for _, v := range []string{s, "a" + s, s + "a"} {
			if got := impl.GoodLabels([]impl.Label{{Name: "a", Value: v}}); got != (c >= 32 && c <= 126) {
				t.Errorf("value %q: %v", v, got)
			}
		}
	}
}

// Promise 2: labels are read back from their text, whatever their values are made of.
func TestLabelsAreReadBack(t *testing.T) {
	var all [][]impl.Label
	for n := range 21 {
		all = append(all, manyLabels(n))
	}
	for c := 32; c < 127; c++ {
		s := string([]byte{byte(c)})
		all = append(all, []impl.Label{{Name: "a", Value: s}, {Name: "b", Value: s + s}, {Name: "c", Value: "x" + s + "x"}})
	}
	long := strings.Repeat("x", 40)
	all = append(all, []impl.Label{{Name: long, Value: strings.Repeat(`"`, 100)}}, []impl.Label{{Name: long, Value: strings.Repeat(`\`, 100)}})
	r := rand.New(rand.NewSource(11))
	for range 2000 {
		all = append(all, randomLabels(r))
	}
	for _, l := range all {
		text := impl.LabelsText(l)
		if text != labelsTextModel(l) {
			t.Fatalf("LabelsText of %q: %q", l, text)
		}
		if got, ok := impl.ReadLabels(text); !ok || !slices.Equal(got, l) {
			t.Fatalf("ReadLabels of %q: %q, %v", text, got, ok)
		}
		if got := impl.HashLabels(l); got != impl.Mix([]byte(text)) {
			t.Fatalf("HashLabels of %q: %d", l, got)
		}
	}
	if got := impl.LabelsText(nil); got != "{}" {
		t.Errorf("no labels: %q", got)
	}
	for _, l := range badLabels() {
		if got := impl.LabelsText(l); got != "" {
			t.Errorf("LabelsText of %q: %q", l, got)
		}
		if got := impl.HashLabels(l); got != impl.Mix(nil) {
			t.Errorf("HashLabels of %q: %d", l, got)
		}
		if got, ok := impl.ReadLabels(labelsTextModel(l)); ok || got != nil {
			t.Errorf("ReadLabels of the text of %q: %q", l, got)
		}
	}
}

// nearTexts are a text with each one byte left out, doubled or put in place of another.
func nearTexts(text string, bytes string) []string {
	var out []string
	for i := range len(text) {
		out = append(out, text[:i], text[i+1:], text[:i]+text[i:i+1]+text[i:])
		for j := range len(bytes) {
			out = append(out, text[:i]+bytes[j:j+1]+text[i+1:], text[:i]+bytes[j:j+1]+text[i:])
		}
	}
	return append(out, text+" ", text+"}", text+text)
}

func TestNothingElseIsReadAsLabels(t *testing.T) {
	for _, s := range []string{
		"", "{", "}", "{}}", "{{}", " {}", "{} ", "{ }", "{,}", "{a}", "{a=}", `{a="}`, `{a="\"}`, `{a="1"`, `{a="1",}`, `{,a="1"}`, `{a="1",,b="2"}`,
		`{a="1"b="2"}`, `{a="1" ,b="2"}`, `{a="1", b="2"}`, `{a ="1"}`, `{a= "1"}`, `{a=1}`, `{a='1'}`, `{="1"}`, `{a=""}`, `{b="1",a="2"}`, `{a="1",a="1"}`,
		`{a="\n"}`, `{a="\a"}`, `{a="\,"}`, `{a="1\"}`, `{a!="1"}`, `{a=~"1"}`, `{a=="1"}`, `a="1"`, `{1a="2"}`, `{a-b="1"}`, "{a=\"\n\"}", "{a=\"\xff\"}", `{a="1"}` + "\x00",
	} {
		if got, ok := impl.ReadLabels(s); ok || got != nil {
			t.Errorf("read from %q: %q", s, got)
		}
	}
	for _, text := range []string{`{}`, `{a="1"}`, `{a="x\"y",b="\\"}`, `{_name="up",a1="}",b="{,="}`} {
		for _, s := range nearTexts(text, "{}=,\"\\a1 ~!\n") {
			got, ok := impl.ReadLabels(s)
			if ok && (!goodLabelsModel(got) || labelsTextModel(got) != s) || !ok && got != nil {
				t.Fatalf("read from %q: %q", s, got)
			}
		}
	}
}

func compareModel(a []impl.Label, b []impl.Label) int {
	for i := 0; ; i++ {
		switch {
		case i == len(a) && i == len(b):
			return 0
		case i == len(a):
			return -1
		case i == len(b):
			return 1
		case a[i] == b[i]:
			continue
		case a[i].Name < b[i].Name || a[i].Name == b[i].Name && a[i].Value < b[i].Value:
			return -1
		default:
			return 1
		}
	}
}

// Promise 2: labels have one order.
func TestLabelsHaveOneOrder(t *testing.T) {
	r := rand.New(rand.NewSource(12))
	all := [][]impl.Label{nil, manyLabels(20), manyLabels(19), {{Name: "a", Value: "b"}}, {{Name: "a", Value: "bb"}}, {{Name: "aa", Value: "a"}}, {{Name: "a", Value: "~"}}, {{Name: "a", Value: " "}}}
	for range 60 {
		all = append(all, randomLabels(r))
	}
	for _, a := range all {
		for _, b := range all {
			c := impl.CompareLabels(a, b)
			if c != compareModel(a, b) || c != -impl.CompareLabels(b, a) || (c == 0) != slices.Equal(a, b) {
				t.Fatalf("%q and %q: %d", a, b, c)
			}
		}
	}
	for _, a := range all {
		for _, b := range all {
			for _, c := range all {
				if impl.CompareLabels(a, b) < 0 && impl.CompareLabels(b, c) < 0 && impl.CompareLabels(a, c) >= 0 {
					t.Fatalf("%q, %q, %q", a, b, c)
				}
			}
		}
	}
	for _, bad := range badLabels() {
		for _, l := range [][]impl.Label{nil, manyLabels(3), bad} {
			if impl.CompareLabels(bad, l) != -2 || impl.CompareLabels(l, bad) != -2 {
				t.Errorf("%q against %q", bad, l)
			}
		}
	}
}

func TestValueOfTellsTheLabel(t *testing.T) {
	r := rand.New(rand.NewSource(13))
	for range 300 {
		l := randomLabels(r)
		for _, n := range []string{"", "A", "_", "_name", "a", "a1", "ab", "ac", "b", "zz", "a b", strings.Repeat("a", 41)} {
			want := ""
			for _, x := range l {
				if x.Name == n {
					want = x.Value
				}
			}
			if got := impl.ValueOf(l, n); got != want {
				t.Fatalf("ValueOf %q, %q: %q", l, n, got)
			}
		}
	}
	for _, l := range badLabels() {
		for _, x := range l {
			if got := impl.ValueOf(l, x.Name); got != "" {
				t.Errorf("ValueOf %q: %q", l, got)
			}
		}
	}
}

func withModel(l []impl.Label, name string, value string) []impl.Label {
	if !goodLabelsModel(l) || !isNameModel(name) || value != "" && !isValueModel(value) {
		return nil
	}
	var out []impl.Label
	for _, x := range l {
		if x.Name != name {
			out = append(out, x)
		}
	}
	if value != "" {
		out = append(out, impl.Label{Name: name, Value: value})
	}
	slices.SortFunc(out, func(a, b impl.Label) int { return cmp.Compare(a.Name, b.Name) })
	if len(out) > 20 {
		return nil
	}
	return out
}

func TestWithLabelPutsOneInItsPlace(t *testing.T) {
	r := rand.New(rand.NewSource(14))
	names := []string{"", "1", "A", "_", "_name", "a", "a1", "ab", "ac", "b", "zz", "n100", "n119", "n1005", "a-b", strings.Repeat("q", 40), strings.Repeat("q", 41)}
	values := []string{"", "v", "\x1f", "\x7f", strings.Repeat("v", 100), strings.Repeat("v", 101)}
	all := append(badLabels(), nil, manyLabels(19), manyLabels(20))
	for range 100 {
		all = append(all, randomLabels(r))
	}
	for _, l := range all {
		for _, n := range names {
			for _, v := range values {
				arg, memory := spare(l, impl.Label{Name: "zzz", Value: "z"})
				was := slices.Clone(memory)
				got := impl.WithLabel(arg, n, v)
				if !slices.Equal(got, withModel(l, n, v)) {
					t.Fatalf("WithLabel %q, %q, %q: %q", l, n, v, got)
				}
				scribble(got)
				if !slices.Equal(memory, was) {
					t.Fatalf("WithLabel %q, %q, %q: the argument has become %q", l, n, v, memory)
				}
			}
		}
	}
}

// scribble writes over all of an answer's memory: an argument that shares it shows.
func scribble(l []impl.Label) {
	l = l[:cap(l)]
	for i := range l {
		l[i] = impl.Label{Name: "scribbled"}
	}
}

func TestKeepAndDropChooseByName(t *testing.T) {
	r := rand.New(rand.NewSource(15))
	many := make([]string, 1001)
	for i := range many {
		many[i] = "other"
	}
	lists := [][]string{nil, {}, {""}, {"a"}, {"b", "a", "b"}, {"a1", "no name", "_name"}, {"A", "_", "_name", "a", "a1", "ab", "b"}, {"A "}, many[:999]}
	last := slices.Clone(many[:1000])
	last[999] = "a"
	lists = append(lists, last, many, append(slices.Clone(last), "b"))
	all := append(badLabels(), nil, manyLabels(20))
	for range 100 {
		all = append(all, randomLabels(r))
	}
	for _, l := range all {
		for _, names := range lists {
			var keep, drop []impl.Label
			for _, x := range l {
				if slices.Contains(names, x.Name) {
					keep = append(keep, x)
				} else {
					drop = append(drop, x)
				}
			}
			if !goodLabelsModel(l) || len(names) > 1000 {
				keep, drop = nil, nil
			}
			arg, memory := spare(l, impl.Label{Name: "zzz", Value: "z"})
			was, namesWere := slices.Clone(memory), slices.Clone(names)
			gotKeep, gotDrop := impl.KeepLabels(arg, names), impl.DropLabels(arg, names)
			if !slices.Equal(gotKeep, keep) || !slices.Equal(gotDrop, drop) {
				t.Fatalf("%q by %d names: kept %q, dropped %q", l, len(names), gotKeep, gotDrop)
			}
			scribble(gotKeep)
			scribble(gotDrop)
			if !slices.Equal(memory, was) || !slices.Equal(names, namesWere) {
				t.Fatalf("%q by %d names: the argument has become %q", l, len(names), memory)
			}
		}
	}
}

// patternModel splits a pattern into its alternatives, each a list of signs: -1 is a `*`, -2 a `?`, a byte itself.
func patternModel(p string) ([][]int, bool) {
	if len(p) > 100 || !isPrintedModel(p) {
		return nil, false
	}
	all := [][]int{nil}
	add := func(n int) { all[len(all)-1] = append(all[len(all)-1], n) }
	for p != "" {
		c := p[0]
		p = p[1:]
		switch {
		case c == '|':
			all = append(all, nil)
		case c == '*':
			add(-1)
		case c == '?':
			add(-2)
		case c == '\\' && p != "" && strings.ContainsAny(p[:1], `*?|\`):
			add(int(p[0]))
			p = p[1:]
		case c == '\\':
			return nil, false
		default:
			add(int(c))
		}
	}
	return all, true
}

// partsModel tries every length for each `*`, the least first.
func partsModel(signs []int, s string) ([]string, bool) {
	if len(signs) == 0 {
		return nil, s == ""
	}
	if signs[0] == -1 {
		for n := range len(s) + 1 {
			if parts, ok := partsModel(signs[1:], s[n:]); ok {
				return append([]string{s[:n]}, parts...), true
			}
		}
		return nil, false
	}
	if s == "" || signs[0] != -2 && signs[0] != int(s[0]) {
		return nil, false
	}
	return partsModel(signs[1:], s[1:])
}

func patternPartsModel(p string, s string) ([]string, bool) {
	all, ok := patternModel(p)
	if !ok || len(s) > 100 {
		return nil, false
	}
	for _, signs := range all {
		if parts, ok := partsModel(signs, s); ok {
			return parts, true
		}
	}
	return nil, false
}

func checkPattern(t *testing.T, p string, s string) {
	t.Helper()
	want, wantOk := patternPartsModel(p, s)
	got, ok := impl.PatternParts(p, s)
	if ok != wantOk || !slices.Equal(got, want) {
		t.Fatalf("PatternParts %q, %q: %q, %v, not %q, %v", p, s, got, ok, want, wantOk)
	}
	// Promise 2: a text fits a pattern just where it has parts.
	if fits := impl.PatternFits(p, s); fits != ok {
		t.Fatalf("PatternFits %q, %q: %v", p, s, fits)
	}
	if _, good := patternModel(p); impl.GoodPattern(p) != good {
		t.Fatalf("GoodPattern %q: %v", p, !good)
	}
}

func TestPatternsStandForTexts(t *testing.T) {
	for _, x := range []struct {
		p, s  string
		parts []string
		ok    bool
	}{
		{"", "", nil, true}, {"", "a", nil, false}, {"|", "", nil, true}, {"a|", "", nil, true}, {"|a", "a", nil, true},
		{"*", "", []string{""}, true}, {"*", "abc", []string{"abc"}, true}, {"**", "ab", []string{"", "ab"}, true},
		{"*-*|*", "a-b-c", []string{"a", "b-c"}, true}, {"*|*-*", "a-b-c", []string{"a-b-c"}, true}, {"x|*-*|*", "abc", []string{"abc"}, true},
		{"a*", "a", []string{""}, true}, {"*a", "aa", []string{"a"}, true}, {"*a*", "banana", []string{"b", "nana"}, true}, {"*a*a", "banana", []string{"b", "nan"}, true},
		{"*ab*b", "aabab", []string{"a", "a"}, true}, {"a*a", "a", nil, false}, {"ab*ba", "aba", nil, false}, {"*?", "xy", []string{"x"}, true}, {"?*?", "xy", []string{""}, true}, {"?*?", "x", nil, false},
		{"?", "", nil, false}, {"?", "\xff", nil, true}, {"?", "é", nil, false}, {"??", "é", nil, true}, {"*", "\x00\n\xff", []string{"\x00\n\xff"}, true},
		{`\*`, "*", nil, true}, {`\*`, "a", nil, false}, {`\?`, "?", nil, true}, {`\?`, "a", nil, false}, {`\\`, `\`, nil, true}, {`\\`, `\\`, nil, false}, {`a\|b`, "a|b", nil, true}, {`a\|b`, "a", nil, false},
		{`\\*`, `\x`, []string{"x"}, true}, {`\\|a`, "a", nil, true}, {`\*|*`, "*", nil, true}, {`*|\*`, "*", []string{"*"}, true}, {`*\**`, "a*b*c", []string{"a", "b*c"}, true},
		{`.`, "a", nil, false}, {`[a]`, "a", nil, false}, {`a"b`, `a"b`, nil, true}, {"a|ab|abc", "ab", nil, true}, {"a|b?", "bx", nil, true}, {"a|b?", "b", nil, false},
	} {
		got, ok := impl.PatternParts(x.p, x.s)
		if ok != x.ok || !slices.Equal(got, x.parts) {
			t.Errorf("PatternParts %q, %q: %q, %v", x.p, x.s, got, ok)
		}
		checkPattern(t, x.p, x.s)
	}
}

func TestPatternsThatAreNotGood(t *testing.T) {
	for _, p := range []string{`\`, `\a`, `a\`, `\\\`, `a|\`, `\ `, `\"`, `*\n`, `\\a\b`, "\x1f", "\x7f", "a\n", "é", strings.Repeat("a", 101), strings.Repeat("*", 101), strings.Repeat("|", 101)} {
		if impl.GoodPattern(p) {
			t.Errorf("good: %q", p)
		}
		for _, s := range []string{"", "a", p, strings.Trim(p, `\`)} {
			checkPattern(t, p, s)
		}
	}
	for c := range 256 {
		s := string([]byte{byte(c)})
		for _, p := range []string{s, `\` + s, "a" + s} {
			checkPattern(t, p, s)
			checkPattern(t, p, p)
		}
	}
}

func TestPatternsAtTheirLimits(t *testing.T) {
	full := strings.Repeat("a", 100)
	for _, x := range []struct {
		p, s string
		ok   bool
	}{
		{full, full, true}, {full + "a", full, false}, {full + "a", full + "a", false}, {"*", full, true}, {"*", full + "a", false}, {strings.Repeat("*", 100), full, true},
		{strings.Repeat("?", 100), full, true}, {strings.Repeat("?", 99), full, false}, {strings.Repeat("|", 99) + "*", full, true}, {strings.Repeat(`\*`, 50), strings.Repeat("*", 50), true},
		{strings.Repeat("*a", 50), full, true}, {strings.Repeat("*a", 49) + "*b", full, false}, {strings.Repeat("*a", 50), full[:49], false}, {strings.Repeat("*?", 50), full[:50], true},
	} {
		parts, ok := impl.PatternParts(x.p, x.s)
		if ok != x.ok || impl.PatternFits(x.p, x.s) != x.ok || ok && len(parts) != strings.Count(strings.ReplaceAll(x.p, `\*`, ""), "*") {
			t.Errorf("%q, %q: %q, %v", x.p, x.s, parts, ok)
		}
	}
	parts, _ := impl.PatternParts(strings.Repeat("*", 100), full)
	if strings.Join(parts[:99], "") != "" || parts[99] != full {
		t.Errorf("a hundred stars: %q", parts)
	}
}

func TestRandomPatterns(t *testing.T) {
	r := rand.New(rand.NewSource(16))
	for range 60000 {
		checkPattern(t, randomOf(r, `ab*?|\*`, 9), randomOf(r, "ab*|", 8))
	}
	for range 20000 {
		checkPattern(t, randomOf(r, "aab**?", 8), randomOf(r, "aab", 12))
	}
}

// badMatchers are matchers that are not good, each in one way.
func badMatchers() [][]impl.Matcher {
	var out [][]impl.Matcher
	for _, op := range []int{0, -1, 5, 6, 1 << 62, -1 << 63} {
		out = append(out, []impl.Matcher{{Name: "a", Op: op, Value: "v"}})
	}
	for op := 1; op <= 4; op++ {
		for _, n := range []string{"", "1", "a b", "a-", "é", "a=", strings.Repeat("a", 41)} {
			out = append(out, []impl.Matcher{{Name: n, Op: op, Value: "v"}})
		}
		for _, v := range []string{"\x1f", "\x7f", "a\n", "é", "\xff", strings.Repeat("v", 101)} {
			out = append(out, []impl.Matcher{{Name: "a", Op: op, Value: v}})
		}
		out = append(out, []impl.Matcher{{Name: "a", Op: op, Value: "v"}, {}})
	}
	for _, v := range []string{`\`, `\a`, `a|\`} {
		out = append(out, []impl.Matcher{{Name: "a", Op: 3, Value: v}}, []impl.Matcher{{Name: "a", Op: 4, Value: v}})
	}
	return append(out, manyMatchers(11))
}

func manyMatchers(n int) []impl.Matcher {
	var m []impl.Matcher
	for i := range n {
		m = append(m, impl.Matcher{Name: "n", Op: i%4 + 1, Value: strings.Repeat("*", i)})
	}
	return m
}

func randomMatchers(r *rand.Rand, most int) []impl.Matcher {
	var m []impl.Matcher
	for range r.Intn(most + 1) {
		x := impl.Matcher{Name: []string{"A", "a", "a1", "none", "_name"}[r.Intn(5)], Op: r.Intn(4) + 1, Value: randomOf(r, `x"\,={}a~*?|`, 3)}
		if r.Intn(3) > 0 {
			x.Value = "x" + x.Value
		}
		if x.Op > 2 && r.Intn(2) == 0 {
			x.Value = "x*|"
		}
		if _, good := patternModel(x.Value); good || x.Op < 3 {
			m = append(m, x)
		}
	}
	return m
}

// Promise 2: matchers are read back from their text.
func TestMatchersAreReadBack(t *testing.T) {
	all := [][]impl.Matcher{nil, {{Name: "b", Op: 1, Value: "1"}, {Name: "a", Op: 1, Value: "1"}, {Name: "a", Op: 1, Value: "1"}}}
	for n := range 11 {
		all = append(all, manyMatchers(n))
	}
	for op := 1; op <= 4; op++ {
		all = append(all, []impl.Matcher{{Name: "a", Op: op}}, []impl.Matcher{{Name: strings.Repeat("_", 40), Op: op, Value: strings.Repeat(`\`, 100)}})
		for c := 32; c < 127; c++ {
			if c != '\\' || op < 3 {
				s := string([]byte{byte(c)})
				all = append(all, []impl.Matcher{{Name: "a", Op: op, Value: s}, {Name: "a", Op: op, Value: "x" + s + "x"}})
			}
		}
	}
	r := rand.New(rand.NewSource(17))
	for range 3000 {
		all = append(all, randomMatchers(r, 10))
	}
	for _, m := range all {
		text := impl.MatchersText(m)
		if !impl.GoodMatchers(m) || text != matchersTextModel(m) {
			t.Fatalf("MatchersText of %v: %q", m, text)
		}
		if got, ok := impl.ReadMatchers(text); !ok || !slices.Equal(got, m) {
			t.Fatalf("ReadMatchers of %q: %v, %v", text, got, ok)
		}
	}
	for _, m := range badMatchers() {
		if impl.GoodMatchers(m) || impl.MatchersText(m) != "" || impl.Fits(m, nil) {
			t.Errorf("good: %+v", m)
		}
		if got, ok := impl.ReadMatchers(matchersTextModel(m)); ok || got != nil {
			t.Errorf("read from the text of %+v: %+v", m, got)
		}
	}
}

func TestNothingElseIsReadAsMatchers(t *testing.T) {
	for _, s := range []string{
		"", "{", "}", "{}}", " {}", "{} ", "{,}", `{a}`, `{a!"1"}`, `{a~"1"}`, `{a=!"1"}`, `{a~="1"}`, `{a=="1"}`, `{a!=~"1"}`, `{a="1",}`, `{a="1"b="2"}`, `{a= "1"}`, `{a="1}`,
		`{a=~"\\a"}`, `{a!~"\\"}`, `{a="\a"}`, `{="1"}`, `{1="1"}`, "{a=\"\n\"}", `{a=1}`, `a="1"`,
	} {
		if got, ok := impl.ReadMatchers(s); ok || got != nil {
			t.Errorf("read from %q: %+v", s, got)
		}
	}
	for _, text := range []string{`{}`, `{a="",b!=""}`, `{a=~"x\"y",b!~"\\\\"}`} {
		for _, s := range nearTexts(text, "{}=,\"\\a1 ~!\n*") {
			got, ok := impl.ReadMatchers(s)
			if ok && (!impl.GoodMatchers(got) || matchersTextModel(got) != s) || !ok && got != nil {
				t.Fatalf("read from %q: %+v", s, got)
			}
		}
	}
}

func fitsModel(x impl.Matcher, l []impl.Label) bool {
	value := ""
	for _, y := range l {
		if y.Name == x.Name {
			value = y.Value
		}
	}
	_, like := patternPartsModel(x.Value, value)
	return []bool{value == x.Value, value != x.Value, like, !like}[x.Op-1]
}

// Promise 2: matchers fit together where each fits.
func TestMatchersFitTogetherWhereEachFits(t *testing.T) {
	r := rand.New(rand.NewSource(18))
	fitted := 0
	for range 20000 {
		m, l := randomMatchers(r, 3), randomLabels(r)
		want := true
		for _, x := range m {
			one := impl.Fits([]impl.Matcher{x}, l)
			if one != fitsModel(x, l) {
				t.Fatalf("Fits %+v, %q: %v", x, l, one)
			}
			want = want && one
		}
		if got := impl.Fits(m, l); got != want {
			t.Fatalf("Fits %+v, %q: %v", m, l, got)
		}
		if want && len(m) > 1 {
			fitted++
		}
	}
	if fitted < 500 {
		t.Errorf("only %d of several fitted", fitted)
	}
	l := manyLabels(20)
	for _, x := range []struct {
		m    []impl.Matcher
		want bool
	}{
		{nil, true}, {[]impl.Matcher{{Name: "n119", Op: 1, Value: "19"}}, true}, {[]impl.Matcher{{Name: "no", Op: 1}}, true}, {[]impl.Matcher{{Name: "no", Op: 2}}, false},
		{[]impl.Matcher{{Name: "no", Op: 3}}, true}, {[]impl.Matcher{{Name: "no", Op: 3, Value: "*"}}, true}, {[]impl.Matcher{{Name: "no", Op: 4, Value: "?*"}}, true}, {[]impl.Matcher{{Name: "no", Op: 4, Value: "|x"}}, false},
		{[]impl.Matcher{{Name: "n100", Op: 1, Value: "*"}}, false}, {[]impl.Matcher{{Name: "n100", Op: 3, Value: "?"}}, true}, {append(manyMatchers(10), impl.Matcher{Name: "n", Op: 1}), false},
	} {
		if got := impl.Fits(x.m, l); got != x.want {
			t.Errorf("Fits %+v: %v", x.m, got)
		}
	}
	for _, bad := range badLabels() {
		if impl.Fits(nil, bad) || impl.Fits([]impl.Matcher{{Name: "zz", Op: 1}}, bad) || impl.Fits([]impl.Matcher{{Name: "a", Op: 2, Value: "no"}}, bad) {
			t.Errorf("bad labels fit: %q", bad)
		}
	}
}

// Promise 27: the askers write into no argument, nor behind its end.
func TestLabelsAreLeftAlone(t *testing.T) {
	r := rand.New(rand.NewSource(19))
	for range 300 {
		l, memory := spare(randomLabels(r), impl.Label{Name: "zzz", Value: "z"})
		m, matchers := spare(randomMatchers(r, 5), impl.Matcher{Name: "zzz", Op: 1, Value: "z"})
		was, matchersWere := slices.Clone(memory), slices.Clone(matchers)
		impl.GoodLabels(l)
		impl.CompareLabels(l, l)
		impl.LabelsText(l)
		impl.HashLabels(l)
		impl.ValueOf(l, "a")
		impl.GoodMatchers(m)
		impl.MatchersText(m)
		impl.Fits(m, l)
		if !slices.Equal(memory, was) || !slices.Equal(matchers, matchersWere) {
			t.Fatalf("written into: %q, %+v", memory, matchers)
		}
	}
	a, _ := impl.ReadLabels(`{a="1",b="2"}`)
	scribble(a)
	if b, _ := impl.ReadLabels(`{a="1",b="2"}`); impl.LabelsText(b) != `{a="1",b="2"}` {
		t.Errorf("what was read before was kept: %q", b)
	}
}
