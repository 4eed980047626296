package tests

import (
	"maps"
	"math/rand"
	"regexp"
	"slices"
	"strconv"
	"strings"
	"testing"

	"loop.example/g00039/impl"
)

// actionNames has each action's word; actionParts the letters of the parts that it may have: From and Sep, Pattern, To, Value, Mod.
var actionNames = []string{"", "keep", "drop", "set", "mod", "map", "keepnames", "dropnames", "lower"}
var actionParts = []string{"", "fp", "fp", "fptv", "ftm", "pv", "p", "p", "ft"}

var oneFilling = regexp.MustCompile(`^(?:[ -#%-~]|\$[1-9$])*$`)
var oneFill = regexp.MustCompile(`\$[1-9$]`)

func isFillingModel(s string) bool {
	return len(s) <= 100 && oneFilling.MatchString(s)
}

func goodRelabelModel(r impl.Relabel) bool {
	if r.Action < 1 || r.Action > 8 || len(r.From) > 10 || slices.ContainsFunc(r.From, func(s string) bool { return !isNameModel(s) }) {
		return false
	}
	may := func(part string) bool { return strings.Contains(actionParts[r.Action], part) }
	_, pattern := patternModel(r.Pattern)
	good := len(r.Sep) <= 10 && isPrintedModel(r.Sep) && pattern && isFillingModel(r.Value)
	good = good && (may("f") || len(r.From) == 0 && r.Sep == "") && (may("p") || r.Pattern == "") && (may("v") || r.Value == "")
	if may("t") {
		good = good && isNameModel(r.To)
	} else {
		good = good && r.To == ""
	}
	if may("m") {
		return good && r.Mod >= 1 && r.Mod <= 1000
	}
	return good && r.Mod == 0
}

// relabelParts tells each part of a rule by itself, with the blank ahead of it, the empty text for one that it does not have.
func relabelParts(r impl.Relabel) []string {
	parts := make([]string, 6)
	if len(r.From) > 0 {
		parts[0] = " from " + strings.Join(r.From, ",")
	}
	for i, x := range []struct{ sign, text string }{{" sep ", r.Sep}, {" like ", r.Pattern}, {" as ", r.Value}} {
		if x.text != "" {
			parts[[]int{1, 2, 4}[i]] = x.sign + quotedModel(x.text)
		}
	}
	if r.To != "" {
		parts[3] = " to " + r.To
	}
	if r.Mod != 0 {
		parts[5] = " by " + strconv.Itoa(r.Mod)
	}
	return parts
}

func relabelTextModel(r impl.Relabel) string {
	word := ""
	if r.Action >= 1 && r.Action <= 8 {
		word = actionNames[r.Action]
	}
	return word + strings.Join(relabelParts(r), "")
}

func fillModel(value string, parts []string) string {
	if !isFillingModel(value) || len(parts) > 100 {
		return ""
	}
	return oneFill.ReplaceAllStringFunc(value, func(s string) string {
		if s == "$$" {
			return "$"
		}
		if n := int(s[1] - '0'); n <= len(parts) {
			return parts[n-1]
		}
		return ""
	})
}

// applyModel keeps the labels as a map of names, and sorts it at last.
func applyModel(l []impl.Label, r impl.Relabel) ([]impl.Label, bool) {
	if !goodLabelsModel(l) || !goodRelabelModel(r) {
		return nil, false
	}
	was := map[string]string{}
	for _, x := range l {
		was[x.Name] = x.Value
	}
	source := ""
	for i, n := range r.From {
		if i > 0 {
			source += r.Sep
		}
		source += was[n]
	}
	parts, fits := patternPartsModel(r.Pattern, source)
	out := maps.Clone(was)
	switch r.Action {
	case 1, 2:
		if fits != (r.Action == 1) {
			return nil, false
		}
	case 3:
		if fits {
			out[r.To] = fillModel(r.Value, parts)
		}
	case 4:
		out[r.To] = strconv.Itoa(slowMix([]byte(source)) % r.Mod)
	case 8:
		lower := []byte(source)
		for i, c := range lower {
			if c >= 'A' && c <= 'Z' {
				lower[i] = c + 32
			}
		}
		out[r.To] = string(lower)
	default:
		for _, x := range l {
			parts, fits := patternPartsModel(r.Pattern, x.Name)
			switch {
			case r.Action == 5 && fits:
				out[fillModel(r.Value, parts)] = x.Value
			case r.Action == 6 && !fits, r.Action == 7 && fits:
				delete(out, x.Name)
			}
		}
	}
	var behind []impl.Label
	for _, n := range slices.Sorted(maps.Keys(out)) {
		if out[n] != "" {
			behind = append(behind, impl.Label{Name: n, Value: out[n]})
		}
	}
	if !goodLabelsModel(behind) {
		return nil, false
	}
	return behind, true
}

func relabelAllModel(l []impl.Label, rules []impl.Relabel) ([]impl.Label, bool) {
	if !goodLabelsModel(l) || len(rules) > 30 || slices.ContainsFunc(rules, func(r impl.Relabel) bool { return !goodRelabelModel(r) }) {
		return nil, false
	}
	for _, r := range rules {
		next, kept := applyModel(l, r)
		if !kept {
			return nil, false
		}
		l = next
	}
	return l, true
}

// checkApply asks ApplyRelabel, and sees that it is what the model says, in memory of its own.
func checkApply(t *testing.T, l []impl.Label, r impl.Relabel) ([]impl.Label, bool) {
	t.Helper()
	labels, labelsKept := guarded(l)
	rule, ruleKept := guarded(r)
	got, kept := impl.ApplyRelabel(labels, rule)
	if want, wantKept := applyModel(l, r); kept != wantKept || !slices.Equal(got, want) {
		t.Fatalf("ApplyRelabel %q, %+v: %q, %v, not %q, %v", l, r, got, kept, want, wantKept)
	}
	checkOwn(t, got, labels, rule)
	out := slices.Clone(got)
	scribble(got)
	if !labelsKept() || !ruleKept() {
		t.Fatalf("ApplyRelabel %q, %+v: written into", l, r)
	}
	return out, kept
}

func checkRelabelAll(t *testing.T, l []impl.Label, rules []impl.Relabel) ([]impl.Label, bool) {
	t.Helper()
	labels, labelsKept := guarded(l)
	list, listKept := guarded(rules)
	got, kept := impl.RelabelAll(labels, list)
	if want, wantKept := relabelAllModel(l, rules); kept != wantKept || !slices.Equal(got, want) {
		t.Fatalf("RelabelAll %q, %+v: %q, %v, not %q, %v", l, rules, got, kept, want, wantKept)
	}
	checkOwn(t, got, labels, list)
	out := slices.Clone(got)
	scribble(got)
	if !labelsKept() || !listKept() {
		t.Fatalf("RelabelAll %q, %+v: written into", l, rules)
	}
	return out, kept
}

// fullRelabels has a rule of each action with all the parts that it may have.
func fullRelabels() []impl.Relabel {
	from := []string{"b", "_name", "b"}
	return []impl.Relabel{
		{Action: 1, From: from, Sep: `"-\`, Pattern: `x*|\\?"`},
		{Action: 2, From: from, Sep: `"-\`, Pattern: `y*|\\?"`},
		{Action: 3, From: from, Sep: "-", Pattern: "*-*", To: "place", Value: `$2/$1$$"\`},
		{Action: 4, From: from, Sep: " ", To: "shard", Mod: 1000},
		{Action: 5, Pattern: `a*`, Value: "my_$1"},
		{Action: 6, Pattern: "a*|b|_name"},
		{Action: 7, Pattern: "ab|b"},
		{Action: 8, From: from, Sep: ",", To: "low"},
	}
}

// badRelabels are rules that are not good, each in one way.
func badRelabels() []impl.Relabel {
	var out []impl.Relabel
	for _, full := range fullRelabels() {
		change := func(do func(r *impl.Relabel)) {
			r := laid(full, 0)
			do(&r)
			out = append(out, r)
		}
		for _, action := range []int{0, -1, 9, 1 << 62, -1 << 63} {
			change(func(r *impl.Relabel) { r.Action = action })
		}
		for _, n := range []string{"", "1", "a-b", "a b", "é", "a\x00", " ", "a,b", strings.Repeat("a", 41)} {
			change(func(r *impl.Relabel) { r.From = []string{n} })
			change(func(r *impl.Relabel) { r.From = []string{"a", n, "b"} })
			if n != "" || strings.Contains(actionParts[full.Action], "t") {
				change(func(r *impl.Relabel) { r.To = n })
			}
		}
		change(func(r *impl.Relabel) { r.From = slices.Repeat([]string{"a"}, 11) })
		for _, s := range []string{strings.Repeat("-", 11), "\n", "\x7f", "é", "-\x1f", "\xff"} {
			change(func(r *impl.Relabel) { r.Sep = s })
		}
		for _, p := range []string{`\`, `\a`, `a|\`, "\x1f", "é", "a\n", strings.Repeat("*", 101)} {
			change(func(r *impl.Relabel) { r.Pattern = p })
		}
		for _, v := range []string{"$", "a$", "$0", "$a", "$ ", "$$$", "$1$", "$-1", "\x1f", "é", "a\n", strings.Repeat("a", 101), strings.Repeat("$1", 50) + "a"} {
			change(func(r *impl.Relabel) { r.Value = v })
		}
		for _, m := range []int{-1, 1001, 1 << 62, -1 << 63} {
			change(func(r *impl.Relabel) { r.Mod = m })
		}
		if full.Action == 4 {
			change(func(r *impl.Relabel) { r.Mod = 0 })
		} else {
			change(func(r *impl.Relabel) { r.Mod = 1 })
		}
		for part, put := range map[string]func(r *impl.Relabel){
			"f": func(r *impl.Relabel) { r.From = []string{"a"} }, "p": func(r *impl.Relabel) { r.Pattern = "a" }, "t": func(r *impl.Relabel) { r.To = "a" }, "v": func(r *impl.Relabel) { r.Value = "a" }, "m": func(r *impl.Relabel) { r.Mod = 1 },
		} {
			if !strings.Contains(actionParts[full.Action], part) {
				change(put)
			}
		}
		if !strings.Contains(actionParts[full.Action], "f") {
			change(func(r *impl.Relabel) { r.Sep = "-" })
		}
	}
	return append(out, impl.Relabel{})
}

// everyShape has for every action all choices of its parts: there or not.
func everyShape() []impl.Relabel {
	var out []impl.Relabel
	for action := range 10 {
		for choice := range 64 {
			r := impl.Relabel{Action: action}
			if choice&1 != 0 {
				r.From = []string{"a"}
			}
			if choice&2 != 0 {
				r.Sep = "-"
			}
			if choice&4 != 0 {
				r.Pattern = "x*"
			}
			if choice&8 != 0 {
				r.To = "to"
			}
			if choice&16 != 0 {
				r.Value = "as_$1"
			}
			if choice&32 != 0 {
				r.Mod = 7
			}
			out = append(out, r)
		}
	}
	return out
}

// limitRelabels are good rules that meet a limit just so.
func limitRelabels() []impl.Relabel {
	long, name := strings.Repeat("~", 100), strings.Repeat("z", 40)
	return []impl.Relabel{
		{Action: 1, From: slices.Repeat([]string{"a"}, 10), Sep: strings.Repeat(" ", 10)}, {Action: 1, From: []string{name}, Pattern: long}, {Action: 2, Pattern: strings.Repeat("*", 100)}, {Action: 1, Pattern: strings.Repeat(`\\`, 50)},
		{Action: 3, To: name, Value: strings.Repeat("$1", 50)}, {Action: 3, To: "_", Value: long}, {Action: 3, To: "a", Value: strings.Repeat("$", 100)}, {Action: 3, To: "a", Value: strings.Repeat(`"`, 100)}, {Action: 3, To: "a", Value: "$9$$"},
		{Action: 4, To: name, Mod: 1}, {Action: 4, To: "a", Mod: 1000}, {Action: 5, Value: strings.Repeat(`\`, 100), Pattern: long}, {Action: 5}, {Action: 6}, {Action: 7}, {Action: 1}, {Action: 2}, {Action: 8, To: "A_9"},
		{Action: 1, Sep: "|"}, {Action: 8, Sep: "\"\\", To: "from"}, {Action: 1, From: []string{"from", "sep", "like", "to", "as", "by"}, Sep: " by 1", Pattern: ` sep "x"`}, {Action: 3, To: "to", Value: ` by 7`},
	}
}

func TestRelabelsThatAreGood(t *testing.T) {
	good := 0
	for _, r := range everyShape() {
		if impl.GoodRelabel(r) != goodRelabelModel(r) {
			t.Errorf("GoodRelabel %+v: %v", r, !goodRelabelModel(r))
		}
		if goodRelabelModel(r) {
			good++
		}
	}
	if good != 8+8+16+4+4+2+2+4 {
		t.Errorf("%d shapes are good", good)
	}
	for _, r := range append(fullRelabels(), limitRelabels()...) {
		if !impl.GoodRelabel(r) || !goodRelabelModel(r) {
			t.Errorf("not good: %+v", r)
		}
	}
	for _, r := range badRelabels() {
		if impl.GoodRelabel(r) || goodRelabelModel(r) || impl.RelabelText(r) != "" {
			t.Errorf("good: %+v", r)
		}
	}
	for c := range 256 {
		s := string([]byte{byte(c)})
		for _, r := range []impl.Relabel{
			{Action: 1, Sep: s}, {Action: 1, From: []string{s}}, {Action: 1, Pattern: s}, {Action: 3, To: s}, {Action: 3, To: "a", Value: s}, {Action: 3, To: "a", Value: "$" + s}, {Action: 3, To: "a", Value: "$$" + s}, {Action: 5, Value: "$1" + s + "$"},
		} {
			if impl.GoodRelabel(r) != goodRelabelModel(r) {
				t.Errorf("GoodRelabel %+v: %v", r, !goodRelabelModel(r))
			}
		}
	}
}

func TestRelabelsAreReadBack(t *testing.T) {
	all := append(fullRelabels(), limitRelabels()...)
	for _, r := range everyShape() {
		if goodRelabelModel(r) {
			all = append(all, r)
		}
	}
	for c := byte(32); c < 127; c++ {
		s := string([]byte{c})
		for _, r := range []impl.Relabel{{Action: 2, Sep: s, Pattern: "a" + s}, {Action: 3, Sep: s + s, To: "a", Value: s}, {Action: 5, Pattern: `\` + s, Value: "$" + s}} {
			if goodRelabelModel(r) {
				all = append(all, r)
			}
		}
	}
	random := rand.New(rand.NewSource(41))
	for range 3000 {
		all = append(all, randomRelabel(random))
	}
	for _, r := range all {
		arg, kept := guarded(r)
		text := impl.RelabelText(arg)
		if text != relabelTextModel(r) || !kept() {
			t.Fatalf("RelabelText of %+v: %q", r, text)
		}
		got, ok := impl.ReadRelabel(text)
		if !ok || !same(got, r) {
			t.Fatalf("ReadRelabel of %q: %+v, %v", text, got, ok)
		}
		checkOwn(t, got, arg)
	}
	for _, r := range badRelabels() {
		text := relabelTextModel(r)
		got, ok := impl.ReadRelabel(text)
		// The text of `a,b` as one name is that of a rule with two.
		if ok && (!goodRelabelModel(got) || relabelTextModel(got) != text || !strings.Contains(text, "a,b")) || !ok && !same(got, impl.Relabel{}) {
			t.Errorf("ReadRelabel of %q: %+v", text, got)
		}
	}
}

func refuseRelabel(t *testing.T, text string) {
	t.Helper()
	if got, ok := impl.ReadRelabel(text); ok || !same(got, impl.Relabel{}) {
		t.Errorf("read from %q: %+v, %v", text, got, ok)
	}
}

func TestNothingElseIsReadAsARelabel(t *testing.T) {
	for _, s := range []string{
		"", " ", "k", "kee", "keepname", "keepnamess", "Keep", "KEEP", "keep ", " keep", "keep\n", "keep\x00", "set", "mod", "lower", "set to", "set to ", "lower to 1", "mod to a", "mod by 7", "from a", "1", "0", "keepfrom a", "keep-", "hashmod to a by 7",
		"keep from", "keep from ", "keep from ,", "keep from a,", "keep from ,a", "keep from a,,b", "keep from a, b", "keep from a b", "keep from a;b", `keep from "a"`, "keep from 1a", "keep from a from b", "keep from a from a",
		`keep sep`, `keep sep `, `keep sep -`, `keep sep "-`, `keep sep -"`, `keep sep '-'`, `keep sep "-" sep "-"`, `keep sep "\-"`, `keep sep "12345678901"`, `keep sep "`, `keep sep "\"`, "keep sep \"\n\"",
		`keep like`, `keep like a`, `keep like "a" like "a"`, `keep like "\\"`, `keep like "\a"`, `keep like "a`, "keep like \"\xff\"", `keep like "a" like "b"`, `keep like "a"b`,
		`lower to "a"`, `lower to a to a`, `lower to a-b`, `lower to a,b`, `set to a as`, `set to a as x`, `set to a as "$"`, `set to a as "$0"`, `set to a as "x" as "x"`, `set to a as "$$$"`,
		`mod to a by`, `mod to a by `, `mod to a by x`, `mod to a by 0`, `mod to a by 1001`, `mod to a by 07`, `mod to a by 007`, `mod to a by +7`, `mod to a by -7`, `mod to a by -0`, `mod to a by 00`, `mod to a by 7.0`, `mod to a by 0x7`, `mod to a by 1_0`, `mod to a by "7"`, `mod to a by 7 by 7`,
		`mod to a by 7 `, `mod to a by 9223372036854775808`, `mod to a by 18446744073709551623`, "mod to a by 7\n",
		`keep sep ""`, `keep like ""`, `keep from a sep ""`, `keep from a like ""`, `keepnames like ""`, `dropnames like ""`, `set to a as ""`, `set like "" to a`, `set sep "" to a`, `map as ""`, `map like ""`, `lower sep "" to a`, `mod sep "" to a by 7`, `keep as ""`, `mod like "" to a by 7`,
		`keep to a`, `keep as "x"`, `keep by 7`, `keep by 0`, `drop to a`, `drop as "x"`, `drop by 7`, `set to a by 7`, `set to a by 0`, `mod like "x" to a by 7`, `mod to a as "x" by 7`, `map from a`, `map sep "-"`, `map to a`, `map by 7`, `keepnames from a`, `keepnames sep "-"`, `keepnames to a`,
		`keepnames as "x"`, `keepnames by 7`, `dropnames from a`, `dropnames sep "-"`, `dropnames to a`, `dropnames as "x"`, `dropnames by 7`, `lower like "x" to a`, `lower to a as "x"`, `lower to a by 7`,
		"keep from " + strings.Repeat("a,", 10) + "a", "keep from " + strings.Repeat("a", 41), `keep like "` + strings.Repeat("a", 101) + `"`, `map as "` + strings.Repeat("a", 101) + `"`,
	} {
		refuseRelabel(t, s)
	}
	for _, r := range fullRelabels() {
		word := actionNames[r.Action]
		var parts []string
		for _, p := range relabelParts(r) {
			if p != "" {
				parts = append(parts, p)
			}
		}
		for i := range parts {
			for j := range i {
				swapped := slices.Clone(parts)
				swapped[i], swapped[j] = swapped[j], swapped[i]
				refuseRelabel(t, word+strings.Join(swapped, ""))
			}
			for j := range len(parts) + 1 {
				refuseRelabel(t, word+strings.Join(slices.Insert(slices.Clone(parts), j, parts[i]), ""))
			}
			wider := slices.Clone(parts)
			for _, wide := range []string{" " + parts[i], "\t" + parts[i][1:], parts[i][1:], strings.Replace(parts[i][1:], " ", "  ", 1), parts[i] + " "} {
				wider[i] = wide
				refuseRelabel(t, word+strings.Join(wider, ""))
			}
		}
		for _, s := range nearTexts(relabelTextModel(r), "\"\\ a1,$*") {
			got, ok := impl.ReadRelabel(s)
			if ok && (!goodRelabelModel(got) || relabelTextModel(got) != s) || !ok && !same(got, impl.Relabel{}) {
				t.Fatalf("read from %q: %+v", s, got)
			}
		}
	}
}

func TestValuesAreFilled(t *testing.T) {
	full, nine := strings.Repeat("v", 100), []string{"p1", "p2", "p3", "p4", "p5", "p6", "p7", "p8", "p9"}
	hundred := slices.Repeat([]string{"x"}, 100)
	hundred[99] = "last"
	for _, x := range []struct {
		value string
		parts []string
		want  string
	}{
		{"", nil, ""}, {"", nine, ""}, {"a", nil, "a"}, {"$1", nil, ""}, {"$1", nine, "p1"}, {"$9", nine, "p9"}, {"$9", nine[:8], ""}, {"a$9b", nine[:8], "ab"}, {"$2$1", nine, "p2p1"}, {"$12", nine, "p12"}, {"$10", nine, "p10"}, {"$99", nine, "p99"},
		{"$$", nine, "$"}, {"$$1", nine, "$1"}, {"$$$1", nine, "$p1"}, {"$$$$", nil, "$$"}, {"$$$$1", nine, "$$1"}, {"$1$$", nine, "p1$"}, {"$$a", nine, "$a"}, {"a$$1-$1", []string{"x"}, "a$1-x"}, {"$1$1", []string{"$2", "no"}, "$2$2"}, {"$1", []string{"$$"}, "$$"},
		{"$", nine, ""}, {"a$", nine, ""}, {"$0", nine, ""}, {"$0a", nine, ""}, {"$a", nine, ""}, {"a$$$", nine, ""}, {"$1$", nine, ""}, {"$ ", nine, ""}, {"$\xff", nine, ""}, {"\n", nine, ""}, {"a\x7f", nine, ""}, {"é", nine, ""},
		{full, nil, full}, {full + "v", nil, ""}, {strings.Repeat("$1", 50), []string{"ab"}, strings.Repeat("ab", 50)}, {strings.Repeat("$1", 50) + "a", []string{"ab"}, ""}, {strings.Repeat("$1", 50), []string{full}, strings.Repeat(full, 50)}, {strings.Repeat("$", 100), nil, strings.Repeat("$", 50)},
		{strings.Repeat("$", 99), nil, ""}, {strings.Repeat("v", 99) + "$", nil, ""}, {strings.Repeat("v", 98) + "$$", nil, strings.Repeat("v", 98) + "$"},
		{"$1", hundred, "x"}, {"$1", append(slices.Clone(hundred), "x"), ""}, {"a", append(slices.Clone(hundred), "x"), ""}, {"a", hundred, "a"}, {"$1-$2", []string{"\x00\n\xff", "é"}, "\x00\n\xff-é"}, {"$1$2", []string{"", ""}, ""},
	} {
		parts, kept := guarded(x.parts)
		if got := impl.FillValue(x.value, parts); got != x.want || fillModel(x.value, x.parts) != x.want || !kept() {
			t.Errorf("FillValue %q, %q: %q, not %q", x.value, x.parts, got, x.want)
		}
	}
	r := rand.New(rand.NewSource(42))
	for range 20000 {
		value, parts := randomOf(r, "$$$1290a", 8), nine[:r.Intn(10)]
		if got := impl.FillValue(value, parts); got != fillModel(value, parts) {
			t.Fatalf("FillValue %q, %q: %q", value, parts, got)
		}
	}
}

func TestEachActionDoesItsOwn(t *testing.T) {
	l := labelsOf("_name", "up", "job", "Api-Web", "zone", "z-1")
	for _, x := range []struct {
		rule string
		want string
	}{
		{`keep`, `{_name="up",job="Api-Web",zone="z-1"}`}, {`keep like "*"`, `{_name="up",job="Api-Web",zone="z-1"}`}, {`keep like "?*"`, ""}, {`keep from job like "Api*"`, `{_name="up",job="Api-Web",zone="z-1"}`}, {`keep from job like "api*"`, ""}, {`keep from none like "x|"`, `{_name="up",job="Api-Web",zone="z-1"}`}, {`keep from none like "x"`, ""},
		{`keep from job,zone like "Api-Webz-1"`, `{_name="up",job="Api-Web",zone="z-1"}`}, {`keep from job,none,zone sep "/" like "Api-Web//z-1"`, `{_name="up",job="Api-Web",zone="z-1"}`}, {`keep from zone,job sep "/" like "Api*"`, ""}, {`keep sep "/" like "/"`, ""}, {`keep from none sep "/" like "/"`, ""}, {`keep from none,none sep "/" like "/"`, `{_name="up",job="Api-Web",zone="z-1"}`},
		{`drop`, ""}, {`drop like "?*"`, `{_name="up",job="Api-Web",zone="z-1"}`}, {`drop from job like "Api*"`, ""}, {`drop from job like "api*"`, `{_name="up",job="Api-Web",zone="z-1"}`}, {`drop from none,none sep "/" like "/"`, ""},
		{`set from job,zone sep "-" like "*-*" to place as "$2/$1"`, `{_name="up",job="Api-Web",place="Web-z-1/Api",zone="z-1"}`}, {`set from job like "*-*" to job as "$2"`, `{_name="up",job="Web",zone="z-1"}`}, {`set from job like "x*" to job as "$1"`, `{_name="up",job="Api-Web",zone="z-1"}`}, {`set from job like "*" to job`, `{_name="up",zone="z-1"}`},
		{`set to job`, `{_name="up",zone="z-1"}`}, {`set to none`, `{_name="up",job="Api-Web",zone="z-1"}`}, {`set to new as "v"`, `{_name="up",job="Api-Web",new="v",zone="z-1"}`}, {`set like "x" to job as "v"`, `{_name="up",job="Api-Web",zone="z-1"}`}, {`set to _name as "down"`, `{_name="down",job="Api-Web",zone="z-1"}`}, {`set to a as "$$$$1"`, `{_name="up",a="$$1",job="Api-Web",zone="z-1"}`},
		{`set from job like "*|*-*" to a as "$1$2"`, `{_name="up",a="Api-Web",job="Api-Web",zone="z-1"}`}, {`set from none like "*" to job as "$1"`, `{_name="up",zone="z-1"}`}, {`set from job like "*" to job as "$2"`, `{_name="up",zone="z-1"}`},
		{`mod from job to s by 1`, `{_name="up",job="Api-Web",s="0",zone="z-1"}`}, {`mod to job by 1`, `{_name="up",job="0",zone="z-1"}`}, {`mod to s by 1000`, `{_name="up",job="Api-Web",s="` + strconv.Itoa(slowMix(nil)%1000) + `",zone="z-1"}`},
		{`mod from job,zone sep "/" to s by 997`, `{_name="up",job="Api-Web",s="` + strconv.Itoa(slowMix([]byte("Api-Web/z-1"))%997) + `",zone="z-1"}`},
		{`map`, `{_name="up",job="Api-Web",zone="z-1"}`}, {`map like "*" as "my_$1"`, `{_name="up",job="Api-Web",my__name="up",my_job="Api-Web",my_zone="z-1",zone="z-1"}`}, {`map like "z*" as "my_$1"`, `{_name="up",job="Api-Web",my_one="z-1",zone="z-1"}`}, {`map like "none" as "1"`, `{_name="up",job="Api-Web",zone="z-1"}`}, {`map like "z*"`, ""}, {`map as "x"`, `{_name="up",job="Api-Web",zone="z-1"}`},
		{`keepnames`, "{}"}, {`keepnames like "*"`, `{_name="up",job="Api-Web",zone="z-1"}`}, {`keepnames like "j?b|zone"`, `{job="Api-Web",zone="z-1"}`}, {`keepnames like "up"`, "{}"},
		{`dropnames`, `{_name="up",job="Api-Web",zone="z-1"}`}, {`dropnames like "*"`, "{}"}, {`dropnames like "j?b|zone"`, `{_name="up"}`}, {`dropnames like "up"`, `{_name="up",job="Api-Web",zone="z-1"}`},
		{`lower from job to job`, `{_name="up",job="api-web",zone="z-1"}`}, {`lower from job,job sep "-Z" to low`, `{_name="up",job="Api-Web",low="api-web-zapi-web",zone="z-1"}`}, {`lower from none to job`, `{_name="up",zone="z-1"}`}, {`lower to none`, `{_name="up",job="Api-Web",zone="z-1"}`}, {`lower to zone`, `{_name="up",job="Api-Web"}`},
	} {
		rule, ok := impl.ReadRelabel(x.rule)
		if !ok {
			t.Errorf("not read: %s", x.rule)
			continue
		}
		got, kept := checkApply(t, l, rule)
		if kept != (x.want != "") || kept && impl.LabelsText(got) != x.want || !kept && len(got) > 0 {
			t.Errorf("%s: %q, %v", x.rule, got, kept)
		}
	}
	all := ""
	for c := byte(32); c < 127; c++ {
		all += string([]byte{c})
	}
	got, _ := checkApply(t, labelsOf("a", all), impl.Relabel{Action: 8, From: []string{"a"}, To: "a"})
	if impl.ValueOf(got, "a") != strings.ToLower(all) {
		t.Errorf("lower: %q", got)
	}
}

func TestLabelsThatBecomeTooMany(t *testing.T) {
	adders := []impl.Relabel{{Action: 3, Value: "v"}, {Action: 4, Mod: 10}, {Action: 8, From: []string{"n100", "n101"}}}
	for _, r := range adders {
		for _, x := range []struct {
			many int
			to   string
			kept bool
			left int
		}{
			{19, "a", true, 20}, {20, "a", false, 0}, {19, "zz", true, 20}, {20, "zz", false, 0}, {20, "n100", true, 20}, {20, "n119", true, 20}, {20, "n110", true, 20}, {20, "n1005", false, 0}, {19, "n118", true, 19}, {2, "n1005", true, 3},
		} {
			r.To = x.to
			got, kept := checkApply(t, manyLabels(x.many), r)
			if kept != x.kept || len(got) != x.left || kept && impl.ValueOf(got, x.to) == "" {
				t.Errorf("%+v with %d labels: %q, %v", r, x.many, got, kept)
			}
		}
	}
	// What puts in nothing, or only takes away, is no label too many.
	for _, r := range []impl.Relabel{{Action: 3, To: "a"}, {Action: 3, Pattern: "x", To: "a", Value: "v"}, {Action: 8, To: "a"}, {Action: 8, From: []string{"a"}, To: "a"}, {Action: 5, Pattern: "x*", Value: "a"}} {
		if got, kept := checkApply(t, manyLabels(20), r); !kept || len(got) != 20 {
			t.Errorf("%+v with 20 labels: %q, %v", r, got, kept)
		}
	}
}

func TestNamesThatAreMapped(t *testing.T) {
	long := strings.Repeat("z", 40)
	for _, x := range []struct {
		labels []impl.Label
		like   string
		as     string
		want   string
	}{
		{manyLabels(19), "n118", "new", labelsTextModel(append(manyLabels(19), labelsOf("new", "18")...))},
		{manyLabels(20), "n119", "new", ""}, {manyLabels(19), "n117|n118", "new_$1", labelsTextModel(append(manyLabels(19), labelsOf("new_", "18")...))}, {manyLabels(19), "n11*", "new_$1", ""}, {manyLabels(10), "*", "a_$1", labelsTextModel(append(namedLabels("a_", 10), manyLabels(10)...))}, {manyLabels(11), "*", "a_$1", ""},
		{manyLabels(20), "*", "$1", labelsTextModel(manyLabels(20))}, {manyLabels(20), "*", "n100", labelsTextModel(append(labelsOf("n100", "19"), manyLabels(20)[1:]...))},
		{labelsOf("a", "1", "b", "2"), "a", "b", `{a="1",b="1"}`}, {labelsOf("a", "1", "b", "2"), "b", "a", `{a="2",b="2"}`}, {labelsOf("a", "1", "b", "2"), "a|b", "c", `{a="1",b="2",c="2"}`}, {labelsOf("a", "1", "b", "2"), "*", "a", `{a="2",b="2"}`}, {labelsOf("a", "1", "b", "2"), "*", "b", `{a="1",b="2"}`},
		{labelsOf("b", "1", "bb", "2"), "*", "b$1", `{b="1",bb="1",bbb="2"}`}, {labelsOf("b", "1", "bb", "2", "bbb", "3"), "b*", "$1b$1", `{b="1",bb="2",bbb="2",bbbbb="3"}`}, {labelsOf("a_x", "1", "a_x_x", "2"), "*_x", "$1", `{a="1",a_x="2",a_x_x="2"}`},
		{labelsOf("a", "1"), "a", "", ""}, {labelsOf("a", "1"), "a", "1$1", ""}, {labelsOf("a", "1"), "a", "a-b", ""}, {labelsOf("a", "1"), "a", "a b", ""}, {labelsOf("a", "1"), "a", "$$", ""}, {labelsOf("a1", "1"), "a*", "$1", ""}, {labelsOf("a", "1"), "a", "$1", ""}, {labelsOf("a", "1", "b", "2"), "*", "", ""},
		{labelsOf("a", "1", "b1", "2"), "a|b*", "x$1", `{a="1",b1="2",x="1",x1="2"}`}, {labelsOf("ab", "1", "b1", "2"), "?*", "$1", ""}, {labelsOf("a", "1"), "a", long, `{a="1",` + long + `="1"}`}, {labelsOf("a", "1"), "a", long + "z", ""}, {labelsOf(long, "1"), "*", "$1", "{" + long + `="1"}`}, {labelsOf(long, "1"), "*", "a$1", ""},
		{labelsOf(long, "1"), "*", "$1$1$1", ""}, {labelsOf("_name", "up"), "_*", "my_$1", `{_name="up",my_name="up"}`}, {labelsOf("a", "1"), "a", "_name", `{_name="1",a="1"}`}, {nil, "*", "", "{}"}, {nil, "", "", "{}"},
	} {
		got, kept := checkApply(t, x.labels, impl.Relabel{Action: 5, Pattern: x.like, Value: x.as})
		if kept != (x.want != "") || kept && labelsTextModel(got) != x.want {
			t.Errorf("%q like %q as %q: %q, %v", x.labels, x.like, x.as, got, kept)
		}
	}
}

// namedLabels are manyLabels with a text ahead of each name.
func namedLabels(ahead string, n int) []impl.Label {
	l := manyLabels(n)
	for i := range l {
		l[i].Name = ahead + l[i].Name
	}
	return l
}

func TestSourcesThatAreTooLong(t *testing.T) {
	full := strings.Repeat("v", 100)
	for _, x := range []struct {
		labels []impl.Label
		from   []string
		sep    string
		many   int
	}{
		{labelsOf("a", full), []string{"a"}, "", 100}, {labelsOf("a", full), []string{"a"}, "-", 100}, {labelsOf("a", full, "b", "v"), []string{"a", "b"}, "", 101}, {labelsOf("a", full), []string{"a", "none"}, "", 100}, {labelsOf("a", full), []string{"a", "none"}, "-", 101}, {labelsOf("a", full), []string{"none", "a"}, "-", 101},
		{labelsOf("a", full[:50]), []string{"a", "a"}, "", 100}, {labelsOf("a", full[:50]), []string{"a", "a"}, "-", 101}, {labelsOf("a", full[:90]), []string{"a", "none"}, "----------", 100}, {labelsOf("a", full[:91]), []string{"a", "none"}, "----------", 101}, {labelsOf("a", full[:10]), slices.Repeat([]string{"a"}, 10), "", 100},
		{labelsOf("a", full[:10]), slices.Repeat([]string{"a"}, 10), "-", 109}, {labelsOf("a", full[:1]), slices.Repeat([]string{"a"}, 10), "----------", 100}, {labelsOf("a", full[:2]), slices.Repeat([]string{"a"}, 10), "----------", 110}, {labelsOf("a", full), slices.Repeat([]string{"a"}, 10), "----------", 1090},
	} {
		fits := x.many <= 100
		for _, p := range []string{"*", "|*", "v*", "*|" + full[:98], "**", "*?*"} {
			r := impl.Relabel{Action: 1, From: x.from, Sep: x.sep, Pattern: p}
			should := fits
			if p == "v*" && x.from[0] == "none" {
				should = false
			}
			if _, kept := checkApply(t, x.labels, r); kept != should {
				t.Errorf("%d bytes, keep %q: %v", x.many, p, kept)
			}
			r.Action = 2
			if got, kept := checkApply(t, x.labels, r); kept == should || kept && len(got) != len(x.labels) {
				t.Errorf("%d bytes, drop %q: %v", x.many, p, kept)
			}
			r.Action, r.To, r.Value = 3, "new", "set"
			if got, kept := checkApply(t, x.labels, r); !kept || (impl.ValueOf(got, "new") == "set") != should {
				t.Errorf("%d bytes, set by %q: %q, %v", x.many, p, got, kept)
			}
		}
		for _, p := range []string{"", "|", "x"} {
			for action, want := range map[int]bool{1: false, 2: true} {
				if _, kept := checkApply(t, x.labels, impl.Relabel{Action: action, From: x.from, Sep: x.sep, Pattern: p}); kept != want {
					t.Errorf("%d bytes, action %d, %q: %v", x.many, action, p, kept)
				}
			}
		}
		if got, kept := checkApply(t, x.labels, impl.Relabel{Action: 8, From: x.from, Sep: x.sep, To: "new"}); kept != fits || kept && len(impl.ValueOf(got, "new")) != x.many {
			t.Errorf("%d bytes, lower: %q, %v", x.many, got, kept)
		}
		if got, kept := checkApply(t, x.labels, impl.Relabel{Action: 4, From: x.from, Sep: x.sep, To: "new", Mod: 1000}); !kept || impl.ValueOf(got, "new") == "" {
			t.Errorf("%d bytes, mod: %q, %v", x.many, got, kept)
		}
	}
}

// A source with bytes that are not printed comes of labels or of a Sep that are not good: no action keeps it, whatever its pattern is.
func TestSourcesThatAreNotPrinted(t *testing.T) {
	for _, s := range []string{"\x00", "\x1f", "\x7f", "\x80", "é", "a\nb", "\xff"} {
		for _, p := range []string{"", "*", "?", "|*", "x"} {
			for action := 1; action <= 8; action++ {
				bad := impl.Relabel{Action: action, From: []string{"a", "b"}, Sep: s, Pattern: p, To: "to", Value: "v", Mod: 1}
				fitTo(&bad)
				bad.Sep = s
				if got, kept := checkApply(t, labelsOf("a", "x"), bad); kept || len(got) > 0 {
					t.Errorf("%+v: %q", bad, got)
				}
				bad.Sep = ""
				if got, kept := checkApply(t, labelsOf("a", s), bad); kept || len(got) > 0 {
					t.Errorf("%+v: %q", bad, got)
				}
			}
		}
	}
}

func TestFilledValuesThatAreTooLong(t *testing.T) {
	for _, x := range []struct {
		value string
		size  int
		kept  bool
	}{
		{"$1", 100, true}, {"$1a", 99, true}, {"$1a", 100, false}, {"$1$1", 50, true}, {"$1$1", 51, false}, {"$$$1", 99, true}, {"$$$1", 100, false}, {strings.Repeat("$1", 50), 2, true}, {strings.Repeat("$1", 50), 3, false}, {strings.Repeat("$1", 50), 100, false}, {strings.Repeat("v", 98) + "$1", 2, true},
		{strings.Repeat("v", 98) + "$1", 3, false}, {strings.Repeat("$2", 50), 100, true}, {strings.Repeat("v", 100), 100, true}, {strings.Repeat("$", 100), 100, true},
	} {
		l := labelsOf("a", strings.Repeat("v", x.size), "to", "old")
		want := fillModel(x.value, []string{l[0].Value})
		got, kept := checkApply(t, l, impl.Relabel{Action: 3, From: []string{"a"}, Pattern: "*", To: "to", Value: x.value})
		if kept != x.kept || kept && impl.ValueOf(got, "to") != want {
			t.Errorf("%q with %d bytes: %q, %v", x.value, x.size, got, kept)
		}
		// One that does not fit is left as it is, however long its filling would be.
		if got, kept := checkApply(t, l, impl.Relabel{Action: 3, From: []string{"a"}, Pattern: "*x", To: "to", Value: x.value}); !kept || impl.ValueOf(got, "to") != "old" {
			t.Errorf("%q with %d bytes that do not fit: %q, %v", x.value, x.size, got, kept)
		}
		// As a name it is longer than a name may be where it is longer than a value may be.
		name := strings.Repeat("v", min(x.size, 40))
		filled := fillModel(x.value, []string{name})
		if _, kept := checkApply(t, labelsOf(name, "1"), impl.Relabel{Action: 5, Pattern: "*", Value: x.value}); kept != isNameModel(filled) {
			t.Errorf("%q with a name of %d bytes: %v", x.value, len(name), kept)
		}
	}
	// A hundred `*` have as many parts as a filling takes.
	got, kept := checkApply(t, labelsOf("a", "xyz"), impl.Relabel{Action: 3, From: []string{"a"}, Pattern: strings.Repeat("*", 100), To: "b", Value: "[$1$9]"})
	if !kept || impl.ValueOf(got, "b") != "[]" {
		t.Errorf("a hundred parts: %q, %v", got, kept)
	}
}

// fitTo takes from a rule the parts that its action may not have.
func fitTo(r *impl.Relabel) {
	parts := actionParts[r.Action]
	if !strings.Contains(parts, "f") {
		r.From, r.Sep = nil, ""
	}
	if !strings.Contains(parts, "p") {
		r.Pattern = ""
	}
	if !strings.Contains(parts, "t") {
		r.To = ""
	}
	if !strings.Contains(parts, "v") {
		r.Value = ""
	}
	if !strings.Contains(parts, "m") {
		r.Mod = 0
	}
}

// randomRelabel is a good rule about the names and values of randomLabels.
func randomRelabel(r *rand.Rand) impl.Relabel {
	names := []string{"A", "_", "_name", "a", "a1", "ab", "b", "none"}
	patterns := []string{"", "*", "x*", "*a*", "?*", "x|x?", "a*|b", "*|", "_*", "?", `x\\*`, `x"*`, "a", "**", "*1"}
	fillings := []string{"", "v", "$1", "a$1", "$1_$1", "$$$1", "$2$1", "b", `"\`, "_$1", "A"}
	rule := impl.Relabel{Action: r.Intn(8) + 1, Sep: randomOf(r, `-"\x`, 2), Pattern: patterns[r.Intn(len(patterns))], To: names[r.Intn(len(names))], Value: fillings[r.Intn(len(fillings))], Mod: r.Intn(1000) + 1}
	for range r.Intn(4) {
		rule.From = append(rule.From, names[r.Intn(len(names))])
	}
	fitTo(&rule)
	return rule
}

// mildRelabel is a rule that keeps most series, so that lists of many of them do.
func mildRelabel(r *rand.Rand) impl.Relabel {
	rule := randomRelabel(r)
	switch {
	case rule.Action == 1 && r.Intn(3) > 0:
		rule.Pattern = "*"
	case rule.Action == 2 && r.Intn(3) > 0:
		rule.Pattern = "none"
	case rule.Action == 5 && r.Intn(4) > 0:
		rule.Pattern, rule.Value = "a*", "b$1"
	case rule.Action == 6 && r.Intn(4) > 0:
		rule.Pattern = "a*|b*|_*"
	case rule.Action == 7 && r.Intn(4) > 0:
		rule.Pattern = "b*"
	}
	return rule
}

func TestRandomRelabels(t *testing.T) {
	r := rand.New(rand.NewSource(43))
	changed := map[int]int{}
	for range 30000 {
		l, rule := randomLabels(r), randomRelabel(r)
		got, kept := checkApply(t, l, rule)
		if !kept || !slices.Equal(got, l) {
			changed[rule.Action]++
		}
		if kept && !impl.GoodLabels(got) {
			t.Fatalf("ApplyRelabel %q, %+v: %q", l, rule, got)
		}
	}
	for action := 1; action <= 8; action++ {
		if changed[action] < 300 {
			t.Errorf("action %d did something only %d times", action, changed[action])
		}
	}
}

// checkTwoLists holds two lists of rules, one behind the other, against one and then the other.
func checkTwoLists(t *testing.T, l []impl.Label, first []impl.Relabel, second []impl.Relabel) bool {
	t.Helper()
	got, kept := checkRelabelAll(t, l, slices.Concat(first, second))
	between, want := impl.RelabelAll(l, first)
	if want {
		between, want = impl.RelabelAll(between, second)
	}
	if len(first)+len(second) > impl.MaxRelabels {
		between, want = nil, false
	}
	if kept != want || !slices.Equal(got, between) {
		t.Fatalf("%q by %+v and %+v: %q, %v, not %q, %v", l, first, second, got, kept, between, want)
	}
	return kept
}

// Promise 4: rules do one after the other what they do all together.
func TestRulesInTwoLists(t *testing.T) {
	r := rand.New(rand.NewSource(44))
	used, kept := map[int]int{}, 0
	for range 4000 {
		l := randomLabels(r)
		rules := make([]impl.Relabel, r.Intn(7))
		for i := range rules {
			rules[i] = mildRelabel(r)
		}
		for cut := range len(rules) + 1 {
			if checkTwoLists(t, l, rules[:cut], rules[cut:]) && cut == 0 {
				kept++
				for _, rule := range rules {
					used[rule.Action]++
				}
			}
		}
	}
	if kept < 500 {
		t.Errorf("kept only %d", kept)
	}
	for action := 1; action <= 8; action++ {
		if used[action] < 100 {
			t.Errorf("action %d did what is kept only %d times", action, used[action])
		}
	}
	rules := append(fullRelabels(), limitRelabels()...)
	labels := [][]impl.Label{nil, labelsOf("_name", "up", "a", "x-1", "ab", "X", "b", "x\""), manyLabels(19), manyLabels(20), labelsOf("a", strings.Repeat("v", 100))}
	for _, l := range labels {
		for _, a := range rules {
			for _, b := range rules {
				checkTwoLists(t, l, []impl.Relabel{a}, []impl.Relabel{b})
			}
			checkTwoLists(t, l, nil, []impl.Relabel{a})
			checkTwoLists(t, l, []impl.Relabel{a}, nil)
		}
		checkTwoLists(t, l, nil, nil)
	}
}

func TestManyRules(t *testing.T) {
	l := labelsOf("a", "1")
	var rules []impl.Relabel
	for i := range 40 {
		rules = append(rules, impl.Relabel{Action: 3, From: []string{"a"}, Pattern: "*", To: "a", Value: "$1" + string(rune('a'+i%26))})
	}
	for n := range 41 {
		got, kept := checkRelabelAll(t, l, rules[:n])
		if kept != (n <= 30) || kept && len(impl.ValueOf(got, "a")) != n+1 {
			t.Errorf("%d rules: %q, %v", n, got, kept)
		}
		for cut := range n + 1 {
			checkTwoLists(t, l, rules[:cut], rules[cut:n])
		}
	}
	// What becomes too many, or too long, on the way is not kept, whatever comes behind it.
	widen := impl.Relabel{Action: 3, To: "zz", Value: "v"}
	drop := impl.Relabel{Action: 7, Pattern: "n*"}
	if got, kept := checkRelabelAll(t, manyLabels(20), []impl.Relabel{widen, drop}); kept || len(got) > 0 {
		t.Errorf("too many on the way: %q", got)
	}
	if got, kept := checkRelabelAll(t, manyLabels(20), []impl.Relabel{drop, widen}); !kept || impl.LabelsText(got) != `{zz="v"}` {
		t.Errorf("few ahead of it: %q, %v", got, kept)
	}
	double := impl.Relabel{Action: 3, From: []string{"a"}, Pattern: "*", To: "a", Value: "$1$1"}
	for n, want := range map[int]bool{0: true, 6: true, 7: false, 8: false} {
		if _, kept := checkRelabelAll(t, l, append(slices.Repeat([]impl.Relabel{double}, n), impl.Relabel{Action: 6})); kept != want {
			t.Errorf("doubled %d times: %v", n, kept)
		}
	}
	// A rule that is not good counts wherever it stands, also where nothing would be kept ahead of it.
	for _, bad := range badRelabels() {
		for _, rules := range [][]impl.Relabel{{bad}, {bad, widen}, {widen, bad}, {{Action: 2}, bad}, append(slices.Repeat([]impl.Relabel{widen}, 29), bad)} {
			if got, kept := checkRelabelAll(t, l, rules); kept || len(got) > 0 {
				t.Fatalf("%+v: %q", rules, got)
			}
		}
		if got, kept := checkApply(t, l, bad); kept || len(got) > 0 {
			t.Fatalf("%+v: %q", bad, got)
		}
	}
}

// Promise 27: labels that are not good give nothing, whatever the rule is, and with no rule at all.
func TestRelabelsOfLabelsThatAreNotGood(t *testing.T) {
	rules := append(fullRelabels(), impl.Relabel{Action: 7, Pattern: "*"}, impl.Relabel{Action: 6}, impl.Relabel{Action: 2, Pattern: "x"}, impl.Relabel{Action: 1})
	for _, l := range badLabels() {
		for _, r := range rules {
			if got, kept := checkApply(t, l, r); kept || len(got) > 0 {
				t.Errorf("%q by %+v: %q", l, r, got)
			}
		}
		for _, list := range [][]impl.Relabel{nil, {}, rules} {
			if got, kept := checkRelabelAll(t, l, list); kept || len(got) > 0 {
				t.Errorf("%q by %d rules: %q", l, len(list), got)
			}
		}
	}
	for _, l := range [][]impl.Label{nil, {}, manyLabels(20)} {
		if got, kept := checkRelabelAll(t, l, nil); !kept || !slices.Equal(got, l) {
			t.Errorf("%q by no rules: %q, %v", l, got, kept)
		}
	}
}

// Promise 27: what is very long is answered too, and left as it is.
func TestVeryLongRelabels(t *testing.T) {
	long := strings.Repeat("a", 1<<20)
	signs := strings.Repeat("$1", 1<<19)
	list := slices.Repeat([]string{"a"}, 1<<16)
	good := labelsOf("a", "1")
	for action := -1; action <= 9; action++ {
		for _, r := range []impl.Relabel{
			{Action: action, From: list}, {Action: action, From: []string{long}}, {Action: action, Sep: long}, {Action: action, Pattern: long}, {Action: action, Pattern: strings.Repeat("*", 1<<20)}, {Action: action, Pattern: strings.Repeat("|", 1<<20)}, {Action: action, To: long}, {Action: action, To: "a", Value: long}, {Action: action, To: "a", Value: signs},
		} {
			got, kept := impl.ApplyRelabel(good, r)
			if impl.GoodRelabel(r) || impl.RelabelText(r) != "" || kept || len(got) > 0 {
				t.Errorf("action %d is taken", action)
			}
		}
	}
	for _, text := range []string{
		long, "keep from " + strings.Repeat("a,", 1<<19) + "a", "keep from " + long, `keep sep "` + long + `"`, `keep like "` + long + `"`, `keep like "` + strings.Repeat(`\\`, 1<<19) + `"`, `keep like "` + long, "lower to " + long, `map as "` + signs + `"`, "mod to a by " + strings.Repeat("9", 1<<20), "keep" + strings.Repeat(" ", 1<<20),
		"keep" + strings.Repeat(` like "a"`, 1<<16),
	} {
		refuseRelabel(t, text)
	}
	if impl.FillValue(long, nil) != "" || impl.FillValue(signs, []string{"a"}) != "" || impl.FillValue("$1", list) != "" {
		t.Error("filled beyond its limits")
	}
	if got := impl.FillValue("$1-$1", []string{long}); got != long+"-"+long {
		t.Errorf("a long part is filled in as %d bytes", len(got))
	}
	if got, kept := impl.RelabelAll(good, slices.Repeat([]impl.Relabel{{Action: 1}}, 1<<16)); kept || len(got) > 0 {
		t.Errorf("very many rules: %q", got)
	}
	if got, kept := impl.RelabelAll(manyLabels(1<<12), nil); kept || len(got) > 0 {
		t.Errorf("very many labels: %d", len(got))
	}
}

// Promise 27: what is asked writes into no argument.
func TestRelabelsAreLeftAlone(t *testing.T) {
	for _, r := range slices.Concat(fullRelabels(), limitRelabels(), badRelabels()) {
		rule, kept := guarded(r)
		impl.GoodRelabel(rule)
		impl.RelabelText(rule)
		if !kept() {
			t.Fatalf("written into: %+v", rule)
		}
	}
	text := `keep from a,b sep "-"`
	a, _ := impl.ReadRelabel(text)
	a.From[0], a.From[1] = "x", "y"
	if b, ok := impl.ReadRelabel(text); !ok || impl.RelabelText(b) != text {
		t.Errorf("what was read before was kept: %+v", b)
	}
	value, parts := "$1$2", []string{"a", "b", "c"}
	if got := impl.FillValue(value, parts[:1]); got != "a" {
		t.Errorf("what lies behind the parts was read: %q", got)
	}
}
