package tests

import (
	"math"
	"math/rand"
	"regexp"
	"slices"
	"sort"
	"strconv"
	"strings"
	"testing"

	"loop.example/g00039/impl"
)

const maxTime = 1000000000000

var kindNames = map[int]string{1: "gauge", 2: "counter", 3: "hist", 4: "info"}

var suffixNumbers = map[string]int{"": 0, "_total": 1, "_bucket": 2, "_count": 3, "_sum": 4, "_info": 5}

var kindSuffixes = map[int][]string{1: {""}, 2: {"_total"}, 3: {"_bucket", "_count", "_sum"}, 4: {"_info"}}

func labelsOf(pairs ...string) []impl.Label {
	var l []impl.Label
	for i := 0; i < len(pairs); i += 2 {
		l = append(l, impl.Label{Name: pairs[i], Value: pairs[i+1]})
	}
	return l
}

// leOf splits labels into the value of `le` and the text of the others.
func leOf(l []impl.Label) (string, string) {
	le, others := "", []impl.Label{}
	for _, x := range l {
		if x.Name == "le" {
			le = x.Value
		} else {
			others = append(others, x)
		}
	}
	return le, labelsTextModel(others)
}

func inDigitsModel(s string) (int, bool) {
	if !inDigits.MatchString(s) {
		return 0, false
	}
	n, err := strconv.Atoi(s)
	return n, err == nil
}

func goodPointModel(f impl.Family, p impl.Point) bool {
	good := slices.Contains(kindSuffixes[f.Kind], p.Suffix) && isNameModel(f.Name+p.Suffix) && goodLabelsModel(p.Labels) && len(p.Labels) <= 19 && p.Value != math.MinInt
	for _, x := range p.Labels {
		good = good && x.Name != "_name"
	}
	if p.Timed {
		good = good && p.Time >= 0 && p.Time <= maxTime
	} else {
		good = good && p.Time == 0
	}
	if p.Ex.Has {
		good = good && goodLabelsModel(p.Ex.Labels) && p.Ex.Value != math.MinInt && p.Suffix != "_count" && p.Suffix != "_sum" && f.Kind != 1 && f.Kind != 4
	} else {
		good = good && len(p.Ex.Labels) == 0 && p.Ex.Value == 0
	}
	return good && (f.Kind != 2 || p.Value >= 0) && (f.Kind != 4 || p.Value == 1)
}

// rowsModel tells each point of a histogram by a letter, and asks for rows of letters ahead of all else.
func rowsModel(points []impl.Point) bool {
	letters := ""
	for _, p := range points {
		letters += map[string]string{"_bucket": "b", "_count": "c", "_sum": "s"}[p.Suffix]
	}
	if oneRow.ReplaceAllString(letters, "") != "" {
		return false
	}
	for _, place := range oneRow.FindAllStringIndex(letters, -1) {
		row := points[place[0]:place[1]]
		_, labels := leOf(row[0].Labels)
		top, value := math.MinInt, 0
		for i, p := range row {
			le, others := leOf(p.Labels)
			if others != labels || p.Timed != row[0].Timed || p.Time != row[0].Time {
				return false
			}
			switch left := len(row) - i; {
			case left > 3:
				n, ok := inDigitsModel(le)
				if !ok || i > 0 && n <= top || p.Value < value {
					return false
				}
				top, value = n, p.Value
			case left == 3:
				if le != "inf" || p.Value < value {
					return false
				}
				value = p.Value
			default:
				if le != "" || left == 2 && p.Value != value {
					return false
				}
			}
		}
	}
	return true
}

func goodFamilyModel(f impl.Family) bool {
	if !isNameModel(f.Name) || kindNames[f.Kind] == "" || len(f.Help) > 100 || !isPrintedModel(f.Help) || len(f.Points) > 100 {
		return false
	}
	for i, p := range f.Points {
		if !goodPointModel(f, p) {
			return false
		}
		for _, q := range f.Points[:i] {
			if p.Suffix == q.Suffix && slices.Equal(p.Labels, q.Labels) {
				return false
			}
		}
	}
	return f.Kind != 3 || rowsModel(f.Points)
}

func goodFamiliesModel(l []impl.Family) bool {
	if len(l) > 50 {
		return false
	}
	told := map[string]int{}
	for i, f := range l {
		if !goodFamilyModel(f) || i > 0 && l[i-1].Name >= f.Name {
			return false
		}
		for _, p := range f.Points {
			told[f.Name+p.Suffix+labelsTextModel(p.Labels)]++
		}
	}
	for _, n := range told {
		if n > 1 {
			return false
		}
	}
	return true
}

func formTextModel(l []impl.Family) string {
	out := ""
	for _, f := range l {
		out += "# kind " + f.Name + " " + kindNames[f.Kind] + "\n"
		if f.Help != "" {
			out += "# help " + f.Name + " " + f.Help + "\n"
		}
		for _, p := range f.Points {
			out += f.Name + p.Suffix
			if len(p.Labels) > 0 {
				out += labelsTextModel(p.Labels)
			}
			out += " " + strconv.Itoa(p.Value)
			if p.Timed {
				out += " @" + strconv.Itoa(p.Time)
			}
			if p.Ex.Has {
				out += " # " + labelsTextModel(p.Ex.Labels) + " " + strconv.Itoa(p.Ex.Value)
			}
			out += "\n"
		}
	}
	return out + "# end\n"
}

func varBytes(n int) []byte {
	var out []byte
	for u := uint64(n); ; u >>= 7 {
		if u < 128 {
			return append(out, byte(u))
		}
		out = append(out, byte(u%128+128))
	}
}

func zigZagModel(n int) int {
	if n < 0 {
		return -2*n - 1
	}
	return 2 * n
}

// textsModel are the texts of families in the order in which they first stand.
func textsModel(l []impl.Family) []string {
	var texts []string
	add := func(s string) {
		if s != "" && !slices.Contains(texts, s) {
			texts = append(texts, s)
		}
	}
	for _, f := range l {
		add(f.Name)
		add(f.Help)
		for _, p := range f.Points {
			for _, x := range append(slices.Clone(p.Labels), p.Ex.Labels...) {
				add(x.Name)
				add(x.Value)
			}
		}
	}
	return texts
}

// packModel packs families with any list of texts; each text has the number of the first place at which it stands there.
func packModel(texts []string, l []impl.Family) []byte {
	var out []byte
	num := func(n int) { out = append(out, varBytes(n)...) }
	text := func(s string) { num(slices.Index(texts, s) + 1) }
	labels := func(l []impl.Label) {
		num(len(l))
		for _, x := range l {
			text(x.Name)
			text(x.Value)
		}
	}
	num(len(texts))
	for _, s := range texts {
		num(len(s))
		out = append(out, s...)
	}
	num(len(l))
	for _, f := range l {
		text(f.Name)
		num(f.Kind)
		text(f.Help)
		num(len(f.Points))
		for _, p := range f.Points {
			num(suffixNumbers[p.Suffix])
			labels(p.Labels)
			num(zigZagModel(p.Value))
			marks := 0
			if p.Timed {
				marks++
			}
			if p.Ex.Has {
				marks += 2
			}
			num(marks)
			if p.Timed {
				num(p.Time)
			}
			if p.Ex.Has {
				labels(p.Ex.Labels)
				num(zigZagModel(p.Ex.Value))
			}
		}
	}
	return out
}

func summed(data []byte) []byte {
	n := impl.Sum32(data)
	return append(slices.Clone(data), byte(n), byte(n>>8), byte(n>>16), byte(n>>24))
}

// rowOf is a row of a histogram with these bounds and values; the last value is that of `inf`.
func rowOf(labels []impl.Label, time int, bounds []int, values []int, sum int) []impl.Point {
	var row []impl.Point
	for i, v := range values {
		le := "inf"
		if i < len(bounds) {
			le = strconv.Itoa(bounds[i])
		}
		l := append(slices.Clone(labels), impl.Label{Name: "le", Value: le})
		sort.Slice(l, func(i, j int) bool { return l[i].Name < l[j].Name })
		row = append(row, impl.Point{Suffix: "_bucket", Labels: l, Value: v})
	}
	row = append(row, impl.Point{Suffix: "_count", Labels: slices.Clone(labels), Value: values[len(values)-1]}, impl.Point{Suffix: "_sum", Labels: slices.Clone(labels), Value: sum})
	for i := range row {
		row[i].Timed, row[i].Time = time >= 0, max(time, 0)
	}
	return row
}

func randomValue(r *rand.Rand) int {
	switch r.Intn(4) {
	case 0:
		return []int{math.MaxInt, math.MinInt + 1, 0, 1, -1}[r.Intn(5)]
	case 1:
		return -int(r.Uint64() >> (1 + r.Intn(63)))
	}
	return int(r.Uint64() >> (1 + r.Intn(63)))
}

func randomTime(r *rand.Rand) int {
	return []int{0, 1, maxTime, r.Intn(maxTime), r.Intn(1000)}[r.Intn(5)]
}

// pointLabels are good labels of a point: without `_name`.
func pointLabels(r *rand.Rand) []impl.Label {
	return slices.DeleteFunc(randomLabels(r), func(x impl.Label) bool { return x.Name == "_name" })
}

func randomEx(r *rand.Rand) impl.Exemplar {
	if r.Intn(2) == 0 {
		return impl.Exemplar{}
	}
	return impl.Exemplar{Has: true, Labels: randomLabels(r), Value: randomValue(r)}
}

func randomRow(r *rand.Rand, labels []impl.Label) []impl.Point {
	var bounds, values []int
	for range r.Intn(4) {
		bounds = append(bounds, randomValue(r))
	}
	slices.Sort(bounds)
	bounds = slices.Compact(bounds)
	for range len(bounds) + 1 {
		values = append(values, max(randomValue(r), 0))
	}
	slices.Sort(values)
	time := -1
	if r.Intn(2) == 0 {
		time = randomTime(r)
	}
	row := rowOf(labels, time, bounds, values, randomValue(r))
	for i := range bounds {
		row[i].Ex = randomEx(r)
	}
	return row
}

// randomFamily is a good family.
func randomFamily(r *rand.Rand, name string) impl.Family {
	f := impl.Family{Name: name, Kind: r.Intn(4) + 1, Help: randomOf(r, ` "\ab#{}`, 5)}
	told := map[string]int{}
	for range r.Intn(4) {
		l := pointLabels(r)
		if told[labelsTextModel(l)]++; told[labelsTextModel(l)] > 1 {
			continue
		}
		p := impl.Point{Suffix: kindSuffixes[f.Kind][0], Labels: l, Value: randomValue(r), Timed: r.Intn(2) == 0}
		if p.Timed {
			p.Time = randomTime(r)
		}
		switch f.Kind {
		case impl.KindHist:
			f.Points = append(f.Points, randomRow(r, l)...)
			continue
		case impl.KindCounter:
			p.Value, p.Ex = max(p.Value, 0), randomEx(r)
		case impl.KindInfo:
			p.Value = 1
		}
		f.Points = append(f.Points, p)
	}
	return f
}

// randomFamilies are a good list.
func randomFamilies(r *rand.Rand) []impl.Family {
	var l []impl.Family
	for _, n := range []string{"A", "_x", "b", "bb", "b_count", "c9"} {
		if r.Intn(2) == 0 {
			l = append(l, randomFamily(r, n))
		}
	}
	if !goodFamiliesModel(l) {
		return randomFamilies(r)
	}
	return l
}

// eachKind is a list with every sort of point.
func eachKind() []impl.Family {
	row := rowOf(labelsOf("a", "1", "z", "2"), 9, []int{-5, 0, 100}, []int{0, 2, 2, 7}, -9)
	row[1].Ex = impl.Exemplar{Has: true, Labels: labelsOf("_name", "x", "le", "7"), Value: math.MinInt + 1}
	row[3].Ex = impl.Exemplar{Has: true}
	return []impl.Family{
		{Name: "big", Kind: impl.KindGauge, Points: []impl.Point{{Value: math.MaxInt}, {Labels: labelsOf("a", "1"), Value: math.MinInt + 1}, {Labels: labelsOf("a", `"\{} #@`), Timed: true}}},
		{Name: "hits", Kind: impl.KindCounter, Help: "how  many ", Points: []impl.Point{{Suffix: "_total", Value: 0, Timed: true, Time: maxTime, Ex: impl.Exemplar{Has: true, Labels: manyLabels(20), Value: -1}}, {Suffix: "_total", Labels: labelsOf("le", "x"), Value: math.MaxInt}}},
		{Name: "none", Kind: impl.KindHist, Help: "#"},
		{Name: "took", Kind: impl.KindHist, Points: slices.Concat(row, rowOf(nil, -1, nil, []int{3}, 0), rowOf(labelsOf("z", "2"), 0, []int{math.MinInt, math.MaxInt}, []int{1, 1, math.MaxInt}, math.MinInt+1))},
		{Name: "v", Kind: impl.KindInfo, Points: []impl.Point{{Suffix: "_info", Labels: manyLabels(19), Value: 1}, {Suffix: "_info", Value: 1, Timed: true, Time: 3}}},
	}
}

func checkGood(t *testing.T, l []impl.Family, want bool) {
	t.Helper()
	if goodFamiliesModel(l) != want {
		t.Fatalf("the model says otherwise of %+v", l)
	}
	arg, kept := guarded(l)
	if got := impl.GoodFamilies(arg); got != want {
		t.Fatalf("GoodFamilies of %+v: %v", l, got)
	}
	for _, f := range arg {
		if got := impl.GoodFamily(f); got != goodFamilyModel(f) {
			t.Fatalf("GoodFamily of %+v: %v", f, got)
		}
	}
	if !kept() {
		t.Fatalf("written into %+v", l)
	}
	if want {
		return
	}
	if got := impl.FormText(arg); got != "" {
		t.Fatalf("FormText of %+v: %q", l, got)
	}
	if got := impl.PackForm(arg); len(got) > 0 {
		t.Fatalf("PackForm of %+v: %v", l, got)
	}
	if got := impl.Flatten(arg, 5); len(got) > 0 {
		t.Fatalf("Flatten of %+v: %+v", l, got)
	}
	// Bytes do not tell all that may be wrong with a list; what is read from them is another one then.
	if got, ok := impl.UnpackForm(summed(packModel(textsModel(l), l))); ok && (!goodFamiliesModel(got) || same(got, l)) || !ok && len(got) > 0 {
		t.Fatalf("UnpackForm of the bytes of %+v", l)
	}
}

// Promise 3: families of each kind are read back from both of their forms.
func checkReadBack(t *testing.T, l []impl.Family) {
	t.Helper()
	checkGood(t, l, true)
	arg, kept := guarded(l)
	text := impl.FormText(arg)
	if text != formTextModel(l) {
		t.Fatalf("FormText of %+v: %q", l, text)
	}
	res := impl.ReadForm(text)
	if res.Err != 0 || res.Line != 0 || !same(res.Families, l) {
		t.Fatalf("ReadForm of %q: %+v", text, res)
	}
	data := impl.PackForm(arg)
	if !slices.Equal(data, summed(packModel(textsModel(l), l))) {
		t.Fatalf("PackForm of %+v: %v", l, data)
	}
	bytes, keptBytes := guarded(data)
	got, ok := impl.UnpackForm(bytes)
	if !ok || !same(got, l) {
		t.Fatalf("UnpackForm of %v: %+v, %v", data, got, ok)
	}
	if !kept() || !keptBytes() {
		t.Fatalf("written into %+v", l)
	}
	checkOwn(t, res, arg)
	checkOwn(t, got, bytes)
}

func TestFamiliesAreReadBack(t *testing.T) {
	checkReadBack(t, nil)
	checkReadBack(t, eachKind())
	for _, f := range eachKind() {
		checkReadBack(t, []impl.Family{f})
	}
	if data := impl.PackForm(nil); !slices.Equal(data, summed([]byte{0, 0})) {
		t.Errorf("PackForm of nothing: %v", data)
	}
	for _, v := range edgeInts() {
		if v != math.MinInt {
			ex := impl.Exemplar{Has: true, Value: v}
			checkReadBack(t, []impl.Family{{Name: "a", Kind: 1, Points: []impl.Point{{Value: v}}}, {Name: "b", Kind: 2, Points: []impl.Point{{Suffix: "_total", Value: max(v, 0), Ex: ex}}}})
		}
	}
	r := rand.New(rand.NewSource(31))
	for range 500 {
		checkReadBack(t, randomFamilies(r))
	}
}

// Promise 3: with any one bit turned, or a byte more or less, nothing is read.
func TestTurnedBytesAreNotRead(t *testing.T) {
	r := rand.New(rand.NewSource(32))
	all := [][]impl.Family{nil, eachKind()}
	for range 30 {
		all = append(all, randomFamilies(r))
	}
	none := func(data []byte) {
		t.Helper()
		if l, ok := impl.UnpackForm(data); ok || len(l) > 0 {
			t.Fatalf("read from %v: %+v", data, l)
		}
	}
	for _, l := range all {
		data := impl.PackForm(l)
		for i := range data {
			for bit := range 8 {
				turned := slices.Clone(data)
				turned[i] ^= 1 << bit
				none(turned)
			}
			none(data[:i])
			none(data[i+1:])
			none(slices.Delete(slices.Clone(data), i, i+1))
			none(slices.Insert(slices.Clone(data), i, data[i]))
			none(slices.Insert(slices.Clone(data), i, 0))
		}
		none(append(slices.Clone(data), 0))
		none(append(slices.Clone(data), data...))
		// With a sum that is right, what is cut or goes on is still no list's bytes.
		inner := data[:len(data)-4]
		for i := range inner {
			none(summed(inner[:i]))
		}
		none(summed(append(slices.Clone(inner), 0)))
	}
	none(nil)
}

// Bytes that say a good list otherwise than PackForm writes it are not read.
func TestOtherBytesOfGoodListsAreNotRead(t *testing.T) {
	l := []impl.Family{{Name: "a", Kind: 2, Help: "h", Points: []impl.Point{{Suffix: "_total", Labels: labelsOf("x", "y"), Value: 3, Timed: true, Time: 4, Ex: impl.Exemplar{Has: true, Value: 5}}}}}
	right := []byte{4, 1, 'a', 1, 'h', 1, 'x', 1, 'y', 1, 1, 2, 2, 1, 1, 1, 3, 4, 6, 3, 4, 0, 10}
	if got := impl.PackForm(l); !slices.Equal(got, summed(right)) {
		t.Fatalf("PackForm: %v", got)
	}
	others := [][]byte{
		packModel([]string{"h", "a", "x", "y"}, l),
		packModel([]string{"a", "h", "x", "y", "z"}, l),
		packModel([]string{"a", "h", "x", "y", "a"}, l),
		packModel([]string{"z", "a", "h", "x", "y"}, l),
		packModel([]string{"a", "h", "x", "y", ""}, l),
		{4, 1, 'a', 1, 'h', 1, 'x', 1, 'y', 1, 1, 2, 2, 1, 1, 1, 3, 4, 6, 7, 4, 0, 10},
		{132, 0, 1, 'a', 1, 'h', 1, 'x', 1, 'y', 1, 1, 2, 2, 1, 1, 1, 3, 4, 6, 3, 4, 0, 10},
		{4, 1, 'a', 1, 'h', 1, 'x', 1, 'y', 1, 1, 2, 2, 1, 1, 1, 3, 4, 6, 3, 4, 0, 138, 0},
		{4, 1, 'a', 1, 'h', 1, 'x', 1, 'y', 1, 1, 2, 2, 1, 7, 1, 3, 4, 6, 3, 4, 0, 10},
		{4, 1, 'a', 1, 'h', 1, 'x', 1, 'y', 1, 5, 2, 2, 1, 1, 1, 3, 4, 6, 3, 4, 0, 10},
		{4, 1, 'a', 1, 'h', 1, 'x', 1, 'y', 1, 1, 2, 2, 1, 6, 1, 3, 4, 6, 3, 4, 0, 10},
	}
	huge := varBytes(math.MaxInt)
	below := varBytes(-1)
	for _, n := range [][]byte{huge, below, varBytes(math.MinInt)} {
		for i := range right {
			others = append(others, slices.Concat(right[:i], n, right[i:]), slices.Concat(right[:i], n, right[i+1:]))
		}
		others = append(others, n, slices.Concat([]byte{0}, n), slices.Concat([]byte{1}, n), slices.Concat([]byte{0, 1, 0, 1, 0}, n))
	}
	for _, data := range others {
		// A great number may well stand in the place of a Value.
		if got, ok := impl.UnpackForm(summed(data)); ok && !slices.Equal(data, packModel(textsModel(got), got)) || !ok && len(got) > 0 || len(data) < 25 && ok {
			t.Errorf("read from %v: %+v", data, got)
		}
	}
	// Any bytes with a right sum: what is read has just these bytes.
	r := rand.New(rand.NewSource(33))
	read := 0
	for range 20000 {
		data := slices.Clone(right)
		for range 1 + r.Intn(2) {
			data[r.Intn(len(data))] = byte(r.Intn(12))
		}
		if got, ok := impl.UnpackForm(summed(data)); ok {
			read++
			if !goodFamiliesModel(got) || !slices.Equal(data, packModel(textsModel(got), got)) {
				t.Fatalf("read from %v: %+v", data, got)
			}
		}
	}
	if read < 100 {
		t.Errorf("only %d were read", read)
	}
	for _, n := range []int{99996, 99997, 1000000} {
		if _, ok := impl.UnpackForm(summed(make([]byte, n))); ok {
			t.Errorf("read from %d bytes", n)
		}
	}
	if _, ok := impl.UnpackForm(summed(append(varBytes(90000), make([]byte, 90000)...))); ok {
		t.Errorf("read from many empty texts")
	}
}

// badFamilies are families that are not good, each in one way.
func badFamilies() []impl.Family {
	point := func(p impl.Point) impl.Family { return impl.Family{Name: "a", Kind: 1, Points: []impl.Point{p}} }
	count := func(p impl.Point) impl.Family {
		p.Suffix = "_total"
		return impl.Family{Name: "a", Kind: 2, Points: []impl.Point{p}}
	}
	info := func(p impl.Point) impl.Family {
		p.Suffix = "_info"
		return impl.Family{Name: "a", Kind: 4, Points: []impl.Point{p}}
	}
	ex := impl.Exemplar{Has: true}
	out := []impl.Family{
		{}, {Name: "a"}, {Kind: 1}, {Name: "a", Kind: -1}, {Name: "a", Kind: 5}, {Name: "a", Kind: math.MinInt}, {Name: "a", Kind: math.MaxInt},
		{Name: "1", Kind: 1}, {Name: strings.Repeat("a", 41), Kind: 1}, {Name: "a b", Kind: 1}, {Name: "a\n", Kind: 1},
		{Name: "a", Kind: 1, Help: strings.Repeat("h", 101)}, {Name: "a", Kind: 1, Help: "\n"}, {Name: "a", Kind: 1, Help: "\x7f"}, {Name: "a", Kind: 1, Help: "é"},
		point(impl.Point{Value: math.MinInt}), point(impl.Point{Time: 1}), point(impl.Point{Time: -1}), point(impl.Point{Timed: true, Time: -1}), point(impl.Point{Timed: true, Time: maxTime + 1}),
		point(impl.Point{Timed: true, Time: math.MinInt}), point(impl.Point{Labels: labelsOf("_name", "x")}), point(impl.Point{Labels: labelsOf("A", "1", "_name", "x", "b", "2")}), point(impl.Point{Labels: manyLabels(20)}),
		point(impl.Point{Ex: ex}), point(impl.Point{Ex: impl.Exemplar{Value: 1}}), point(impl.Point{Ex: impl.Exemplar{Labels: labelsOf("a", "1")}}), point(impl.Point{Suffix: "_total"}), point(impl.Point{Suffix: "_info", Value: 1}),
		point(impl.Point{Suffix: "_bucket", Labels: labelsOf("le", "inf")}), point(impl.Point{Suffix: "x"}), point(impl.Point{Suffix: " "}), point(impl.Point{Suffix: strings.Repeat("_", 1000)}),
		count(impl.Point{Value: -1}), count(impl.Point{Value: math.MinInt}), count(impl.Point{Ex: impl.Exemplar{Has: true, Value: math.MinInt}}), count(impl.Point{Ex: impl.Exemplar{Value: 1}}),
		count(impl.Point{Ex: impl.Exemplar{Labels: labelsOf("a", "1")}}), count(impl.Point{Ex: impl.Exemplar{Has: true, Labels: manyLabels(21)}}),
		info(impl.Point{Value: 0}), info(impl.Point{Value: 2}), info(impl.Point{Value: -1}), info(impl.Point{Value: 1, Ex: ex}),
		{Name: "a", Kind: 2, Points: []impl.Point{{Value: 1}}}, {Name: "a", Kind: 4, Points: []impl.Point{{Value: 1}}}, {Name: "a", Kind: 2, Points: []impl.Point{{Suffix: "_count", Value: 1}}}, {Name: "a", Kind: 3, Points: []impl.Point{{Suffix: "_total", Value: 1}}},
		{Name: strings.Repeat("a", 35), Kind: 2, Points: []impl.Point{{Suffix: "_total"}}}, {Name: strings.Repeat("a", 36), Kind: 4, Points: []impl.Point{{Suffix: "_info", Value: 1}}},
		{Name: "a", Kind: 1, Points: []impl.Point{{}, {}}}, {Name: "a", Kind: 1, Points: []impl.Point{{Labels: labelsOf("a", "1"), Value: 1}, {Value: 2}, {Labels: labelsOf("a", "1"), Value: 3, Timed: true, Time: 1}}},
		{Name: "a", Kind: 2, Points: []impl.Point{{Suffix: "_total", Ex: ex}, {Suffix: "_total"}}},
	}
	for _, l := range badLabels() {
		out = append(out, point(impl.Point{Labels: l}), count(impl.Point{Ex: impl.Exemplar{Has: true, Labels: l}}))
	}
	return out
}

func TestFamiliesThatAreNotGood(t *testing.T) {
	for _, f := range badFamilies() {
		if impl.GoodFamily(f) || goodFamilyModel(f) {
			t.Errorf("good: %+v", f)
		}
		checkGood(t, []impl.Family{f}, false)
		checkGood(t, []impl.Family{{Name: "A", Kind: 1}, f, {Name: "z", Kind: 1}}, false)
	}
	long := strings.Repeat("a", 34)
	for _, f := range []impl.Family{
		{Name: long, Kind: 2, Points: []impl.Point{{Suffix: "_total"}}},
		{Name: long + "a", Kind: 4, Points: []impl.Point{{Suffix: "_info", Value: 1}}},
		{Name: long + "aaaaaa", Kind: 1, Help: strings.Repeat("~", 100), Points: []impl.Point{{Labels: manyLabels(19)}}},
		{Name: long + "aaaaaa", Kind: 2}, {Name: long + "aaaaaa", Kind: 3}, {Name: long + "aaaaaa", Kind: 4},
		{Name: long[1:], Kind: 3, Points: rowOf(nil, -1, nil, []int{0}, 0)},
	} {
		checkReadBack(t, []impl.Family{f})
	}
	checkGood(t, []impl.Family{{Name: long, Kind: 3, Points: rowOf(nil, -1, nil, []int{0}, 0)}}, false)
	a, b := impl.Family{Name: "a", Kind: 1}, impl.Family{Name: "b", Kind: 1}
	checkGood(t, []impl.Family{a, b}, true)
	checkGood(t, []impl.Family{b, a}, false)
	checkGood(t, []impl.Family{a, a}, false)
	checkGood(t, []impl.Family{{Name: "B", Kind: 1}, {Name: "_", Kind: 1}, {Name: "a", Kind: 1}}, true)
}

// Points of different families may have one name with its Suffix, but not the same Labels too.
func TestPointsOfAllFamiliesAreUnlike(t *testing.T) {
	hist := impl.Family{Name: "a", Kind: 3, Points: rowOf(labelsOf("x", "1"), -1, nil, []int{3}, 4)}
	gauge := func(name string, labels ...string) impl.Family {
		return impl.Family{Name: name, Kind: 1, Points: []impl.Point{{Labels: labelsOf(labels...), Value: 7}}}
	}
	checkGood(t, []impl.Family{hist, gauge("a_count", "x", "1")}, false)
	checkGood(t, []impl.Family{hist, gauge("a_sum", "x", "1")}, false)
	checkGood(t, []impl.Family{hist, gauge("a_bucket", "le", "inf", "x", "1")}, false)
	checkReadBack(t, []impl.Family{hist, gauge("a_bucket", "x", "1"), gauge("a_count", "x", "2"), gauge("a_sum")})
	total := impl.Family{Name: "a", Kind: 2, Points: []impl.Point{{Suffix: "_total"}}}
	checkGood(t, []impl.Family{total, gauge("a_b"), gauge("a_total")}, false)
	checkReadBack(t, []impl.Family{total, gauge("a_b"), gauge("a_total", "x", "1")})
	checkGood(t, []impl.Family{gauge("a"), total}, false)
	info := impl.Family{Name: "a", Kind: 4, Points: []impl.Point{{Suffix: "_info", Value: 1}}}
	checkGood(t, []impl.Family{info, gauge("a_info")}, false)
}

// Promise 27: what is very long is answered like all else that is not good.
func TestVeryLongForms(t *testing.T) {
	long := strings.Repeat("a", 1000000)
	for _, f := range []impl.Family{
		{Name: long, Kind: 1}, {Name: "a", Kind: 1, Help: long}, {Name: "a", Kind: 1, Points: make([]impl.Point, 100000)}, {Name: "a", Kind: 1, Points: []impl.Point{{Suffix: long}}},
		{Name: "a", Kind: 1, Points: []impl.Point{{Labels: manyLabels(100000)}}}, {Name: "a", Kind: 2, Points: []impl.Point{{Suffix: "_total", Ex: impl.Exemplar{Has: true, Labels: labelsOf("a", long)}}}},
	} {
		if impl.GoodFamily(f) || impl.GoodFamilies([]impl.Family{f}) || impl.FormText([]impl.Family{f}) != "" || len(impl.PackForm([]impl.Family{f})) > 0 || len(impl.Flatten([]impl.Family{f}, 1)) > 0 {
			t.Errorf("a long family of %d points is good", len(f.Points))
		}
	}
	if l := make([]impl.Family, 100000); impl.GoodFamilies(l) || impl.FormText(l) != "" || len(impl.PackForm(l)) > 0 || len(impl.Flatten(l, 1)) > 0 {
		t.Errorf("a long list is good")
	}
	if got := impl.ReadForm(strings.Repeat("# end\n", 1000000)); !same(got, impl.FormRes{Err: 1}) {
		t.Errorf("a long text: %+v", got)
	}
}

func TestLimitsOfForms(t *testing.T) {
	var many []impl.Family
	for i := range 51 {
		many = append(many, impl.Family{Name: "f" + strconv.Itoa(100+i), Kind: i%4 + 1})
	}
	checkReadBack(t, many[:50])
	checkGood(t, many, false)
	var points []impl.Point
	for i := range 101 {
		points = append(points, impl.Point{Labels: labelsOf("n", strconv.Itoa(i)), Value: i})
	}
	checkReadBack(t, []impl.Family{{Name: "a", Kind: 1, Points: points[:100]}})
	checkGood(t, []impl.Family{{Name: "a", Kind: 1, Points: points}}, false)
	for _, x := range []struct {
		l    []impl.Family
		want int
	}{{many, 3}, {[]impl.Family{{Name: "a", Kind: 1, Points: points}}, 3}} {
		if got := impl.ReadForm(formTextModel(x.l)); !same(got, impl.FormRes{Err: x.want}) {
			t.Errorf("beyond a limit: %+v", got)
		}
	}
	// A form of just as many bytes as may be, and one more.
	for _, n := range []int{19999, 20000, 20001} {
		l := longForm(n)
		text := formTextModel(l)
		if len(text) != n {
			t.Fatalf("%d bytes, not %d", len(text), n)
		}
		if n <= 20000 {
			checkReadBack(t, l)
			continue
		}
		checkGood(t, l, true)
		if got := impl.FormText(l); got != "" {
			t.Errorf("FormText of %d bytes: %d", n, len(got))
		}
		if got := impl.PackForm(l); len(got) > 0 {
			t.Errorf("PackForm of %d bytes: %d", n, len(got))
		}
		if _, ok := impl.UnpackForm(summed(packModel(textsModel(l), l))); ok {
			t.Errorf("UnpackForm of %d bytes", n)
		}
		if got := impl.ReadForm(text); !same(got, impl.FormRes{Err: 1}) {
			t.Errorf("ReadForm of %d bytes: %+v", n, got)
		}
		if got := impl.Flatten(l, 0); !same(got, flattenModel(l, 0)) || len(got) < 100 {
			t.Errorf("Flatten of %d bytes: %d", n, len(got))
		}
	}
	if got := impl.ReadForm(strings.Repeat("x", 20001)); !same(got, impl.FormRes{Err: 1}) {
		t.Errorf("%+v", got)
	}
	if got := impl.ReadForm(strings.Repeat("x", 20000)); !same(got, impl.FormRes{Err: 2, Line: 1}) {
		t.Errorf("%+v", got)
	}
	if got := impl.ReadForm(strings.Repeat("\n", 20000)); !same(got, impl.FormRes{Err: 2, Line: 1}) {
		t.Errorf("%+v", got)
	}
	if got := impl.ReadForm(strings.Repeat("# kind a gauge\n", 1333)); !same(got, impl.FormRes{Err: 2, Line: 1334}) {
		t.Errorf("%+v", got)
	}
}

// longForm is a good list whose text has n bytes, n from 19000 on.
func longForm(n int) []impl.Family {
	l := []impl.Family{{Name: "a", Kind: 1}, {Name: "b", Kind: 1, Help: "h"}}
	for i := range 100 {
		v := strconv.Itoa(1000 + i)
		l[0].Points = append(l[0].Points, impl.Point{Labels: labelsOf("x", v+strings.Repeat("v", 90), "y", strings.Repeat("w", 80))})
	}
	left := n - len(formTextModel(l))
	for i := 0; left > 0; i++ {
		// A line of the second family has at least 13 bytes here.
		size := min(left, 60)
		if left-size > 0 && left-size < 20 {
			size -= 20
		}
		l[1].Points = append(l[1].Points, impl.Point{Labels: labelsOf("n", strconv.Itoa(100+i)+strings.Repeat("m", size-13))})
		left -= size
	}
	return l
}

func flattenModel(l []impl.Family, time int) []impl.Put {
	var puts []impl.Put
	for _, f := range l {
		for _, p := range f.Points {
			labels := append(slices.Clone(p.Labels), impl.Label{Name: "_name", Value: f.Name + p.Suffix})
			sort.Slice(labels, func(i, j int) bool { return labels[i].Name < labels[j].Name })
			at := time
			if p.Timed {
				at = p.Time
			}
			puts = append(puts, impl.Put{Labels: labels, Time: at, Value: p.Value})
		}
	}
	return puts
}

func TestFlattenTellsEachPoint(t *testing.T) {
	r := rand.New(rand.NewSource(34))
	all := [][]impl.Family{nil, eachKind()}
	for range 150 {
		all = append(all, randomFamilies(r))
	}
	for _, l := range all {
		for _, time := range []int{0, 7, maxTime, -1, maxTime + 1, math.MinInt, math.MaxInt} {
			arg, kept := guarded(l)
			got := impl.Flatten(arg, time)
			want := flattenModel(l, time)
			if time < 0 || time > maxTime {
				want = nil
			}
			if !same(got, want) || !kept() {
				t.Fatalf("Flatten of %+v at %d: %+v", l, time, got)
			}
			checkOwn(t, got, arg)
		}
	}
}

// Rows of histograms, each with one fault.
func TestRowsOfHistograms(t *testing.T) {
	base := func() []impl.Point { return rowOf(labelsOf("a", "1"), 5, []int{-1, 2}, []int{1, 1, 4}, 9) }
	other := func() []impl.Point { return rowOf(labelsOf("a", "2"), -1, []int{10}, []int{0, 3}, -9) }
	le := func(p *impl.Point, v string) { p.Labels = labelsOf("a", "1", "le", v) }
	hist := func(points []impl.Point) []impl.Family { return []impl.Family{{Name: "h", Kind: 3, Points: points}} }
	checkReadBack(t, hist(base()))
	checkReadBack(t, hist(slices.Concat(base(), other())))
	checkReadBack(t, hist(slices.Concat(other(), base())))
	checkReadBack(t, hist(rowOf(nil, -1, []int{9, 10, 100}, []int{0, 0, 0, 0}, 0)))
	checkReadBack(t, hist(rowOf(nil, -1, []int{-10, -9, -1, 0, 5}, []int{0, 0, 0, 0, 0, 0}, 0)))
	for i, change := range []func(row []impl.Point) []impl.Point{
		func(row []impl.Point) []impl.Point { le(&row[1], "-1"); return row },
		func(row []impl.Point) []impl.Point { le(&row[1], "-2"); return row },
		func(row []impl.Point) []impl.Point { le(&row[1], "02"); return row },
		func(row []impl.Point) []impl.Point { le(&row[1], "+2"); return row },
		func(row []impl.Point) []impl.Point { le(&row[1], "2.0"); return row },
		func(row []impl.Point) []impl.Point { le(&row[1], "-0"); return row },
		func(row []impl.Point) []impl.Point { le(&row[1], "0x2"); return row },
		func(row []impl.Point) []impl.Point { le(&row[1], "1_0"); return row },
		func(row []impl.Point) []impl.Point { le(&row[1], " 2"); return row },
		func(row []impl.Point) []impl.Point { le(&row[1], "9223372036854775808"); return row },
		func(row []impl.Point) []impl.Point { le(&row[0], "-9223372036854775809"); return row },
		func(row []impl.Point) []impl.Point { le(&row[1], "inf"); return row },
		func(row []impl.Point) []impl.Point { le(&row[0], "inf"); return row },
		func(row []impl.Point) []impl.Point { le(&row[0], "-inf"); return row },
		func(row []impl.Point) []impl.Point { le(&row[2], "5"); return row },
		func(row []impl.Point) []impl.Point { le(&row[2], "Inf"); return row },
		func(row []impl.Point) []impl.Point { le(&row[2], "+inf"); return row },
		func(row []impl.Point) []impl.Point { row[0].Labels = labelsOf("a", "1"); return row },
		func(row []impl.Point) []impl.Point { row[2].Labels = labelsOf("a", "1"); return row },
		func(row []impl.Point) []impl.Point { row[1].Labels = labelsOf("a", "2", "le", "2"); return row },
		func(row []impl.Point) []impl.Point { row[0].Labels = labelsOf("le", "-1"); return row },
		func(row []impl.Point) []impl.Point {
			row[2].Labels = labelsOf("a", "1", "b", "1", "le", "inf")
			return row
		},
		func(row []impl.Point) []impl.Point { row[0].Value = -1; return row },
		func(row []impl.Point) []impl.Point { row[0].Value, row[1].Value = 3, 2; return row },
		func(row []impl.Point) []impl.Point { row[1].Value = 5; return row },
		func(row []impl.Point) []impl.Point { row[3].Value = 3; return row },
		func(row []impl.Point) []impl.Point { row[3].Value = 5; return row },
		func(row []impl.Point) []impl.Point { row[2].Value = 5; return row },
		func(row []impl.Point) []impl.Point { row[3].Labels = nil; return row },
		func(row []impl.Point) []impl.Point { row[3].Labels = labelsOf("a", "2"); return row },
		func(row []impl.Point) []impl.Point { row[3].Labels = labelsOf("a", "1", "le", "inf"); return row },
		func(row []impl.Point) []impl.Point { row[4].Labels = nil; return row },
		func(row []impl.Point) []impl.Point { row[4].Labels = labelsOf("a", "1", "b", "1"); return row },
		func(row []impl.Point) []impl.Point { row[0].Time = 6; return row },
		func(row []impl.Point) []impl.Point { row[2].Time = 6; return row },
		func(row []impl.Point) []impl.Point { row[3].Time = 6; return row },
		func(row []impl.Point) []impl.Point { row[4].Time = 6; return row },
		func(row []impl.Point) []impl.Point { row[1].Timed, row[1].Time = false, 0; return row },
		func(row []impl.Point) []impl.Point { row[3].Timed, row[3].Time = false, 0; return row },
		func(row []impl.Point) []impl.Point { row[4].Timed, row[4].Time = false, 0; return row },
		func(row []impl.Point) []impl.Point { row[3].Ex.Has = true; return row },
		func(row []impl.Point) []impl.Point { row[4].Ex.Has = true; return row },
		func(row []impl.Point) []impl.Point { row[4].Value = math.MinInt; return row },
		func(row []impl.Point) []impl.Point { return row[:4] },
		func(row []impl.Point) []impl.Point { return row[:3] },
		func(row []impl.Point) []impl.Point { return row[:2] },
		func(row []impl.Point) []impl.Point { return row[3:] },
		func(row []impl.Point) []impl.Point { return row[4:] },
		func(row []impl.Point) []impl.Point { return slices.Delete(row, 2, 3) },
		func(row []impl.Point) []impl.Point { return slices.Delete(row, 3, 4) },
		func(row []impl.Point) []impl.Point { row[3], row[4] = row[4], row[3]; return row },
		func(row []impl.Point) []impl.Point { row[2], row[3] = row[3], row[2]; return row },
		func(row []impl.Point) []impl.Point { row[0], row[1] = row[1], row[0]; return row },
		func(row []impl.Point) []impl.Point { return append(row[3:5:5], row[:3]...) },
		func(row []impl.Point) []impl.Point { return slices.Concat(row, row) },
		func(row []impl.Point) []impl.Point { return slices.Concat(row[:3], other(), row[3:]) },
		func(row []impl.Point) []impl.Point { return slices.Concat(row[:1], other(), row[1:]) },
		func(row []impl.Point) []impl.Point { return slices.Concat(row[:4], other(), row[4:]) },
		func(row []impl.Point) []impl.Point { return slices.Concat(row, other()[:3]) },
		func(row []impl.Point) []impl.Point { return slices.Concat(row, other()[2:]) },
		func(row []impl.Point) []impl.Point { return slices.Concat(row, other()[3:]) },
		func(row []impl.Point) []impl.Point {
			return append(row, impl.Point{Suffix: "_count", Labels: labelsOf("a", "9")}, impl.Point{Suffix: "_sum", Labels: labelsOf("a", "9")})
		},
	} {
		l := hist(change(base()))
		if goodFamiliesModel(l) {
			t.Fatalf("change %d: the model says that it is good", i)
		}
		checkGood(t, l, false)
		if got := impl.ReadForm(formTextModel(l)); !same(got, impl.FormRes{Err: 3}) {
			t.Errorf("change %d: %+v", i, got)
		}
	}
	// What is beside the point: an untimed row at 0 is not one that is timed at 0.
	row := rowOf(nil, 0, nil, []int{1}, 1)
	checkReadBack(t, hist(row))
	row[1].Timed = false
	checkGood(t, hist(row), false)
}

// Families that are changed at random are good just where the model says so.
func TestFamiliesChangedAtRandom(t *testing.T) {
	r := rand.New(rand.NewSource(35))
	good := 0
	for range 3000 {
		l := laid(randomFamilies(r), 0)
		for range 1 + r.Intn(2) {
			changeFamilies(r, l)
		}
		want := goodFamiliesModel(l)
		if want {
			good++
			checkReadBack(t, l)
		} else {
			checkGood(t, l, false)
		}
	}
	if good < 500 || good > 2500 {
		t.Errorf("%d good ones", good)
	}
}

func changeFamilies(r *rand.Rand, l []impl.Family) {
	if len(l) == 0 {
		return
	}
	f := &l[r.Intn(len(l))]
	if len(f.Points) == 0 {
		f.Kind = r.Intn(6)
		return
	}
	p, q := &f.Points[r.Intn(len(f.Points))], &f.Points[r.Intn(len(f.Points))]
	switch r.Intn(10) {
	case 0:
		*p, *q = *q, *p
	case 1:
		p.Value += r.Intn(3) - 1
	case 2:
		p.Timed, p.Time = q.Timed, q.Time
	case 3:
		p.Labels = slices.Clone(q.Labels)
	case 4:
		p.Suffix = q.Suffix
	case 5:
		p.Ex = laid(q.Ex, 0)
	case 6:
		for i := range p.Labels {
			if p.Labels[i].Name == "le" {
				p.Labels[i].Value = []string{"0", "5", "-7", "inf", "x"}[r.Intn(5)]
			}
		}
	case 7:
		f.Points = slices.Delete(f.Points, len(f.Points)-1, len(f.Points))
	case 8:
		p.Value = randomValue(r)
	case 9:
		f.Kind = r.Intn(5)
	}
}

var (
	inDigits  = regexp.MustCompile(`^(0|-?[1-9][0-9]*)$`)
	oneRow    = regexp.MustCompile(`b+cs`)
	kindLine  = regexp.MustCompile(`^# kind ([a-zA-Z_][a-zA-Z0-9_]*) (gauge|counter|hist|info)$`)
	helpLine  = regexp.MustCompile(`^# help ([a-zA-Z_][a-zA-Z0-9_]*) ([ -~]{1,100})$`)
	pointLine = regexp.MustCompile(`^([a-zA-Z_][a-zA-Z0-9_]*)(\{(?:[^"{}]+"(?:[^"\\]|\\.)*")+\})? (\S+)(?: @(\S+))?(?: # (\{(?:[^"{}]+"(?:[^"\\]|\\.)*")*\}) (\S+))?$`)
)

// readFormModel reads a form by regular expressions.
func readFormModel(text string) impl.FormRes {
	if len(text) > 20000 {
		return impl.FormRes{Err: 1}
	}
	var l []impl.Family
	state := "first"
	lines := strings.Split(text, "\n")
	for i, line := range lines {
		wrong := impl.FormRes{Err: 2, Line: i + 1}
		if i == len(lines)-1 {
			if line != "" || state != "end" {
				return wrong
			}
			break
		}
		kind, help, point := kindLine.FindStringSubmatch(line), helpLine.FindStringSubmatch(line), pointLine.FindStringSubmatch(line)
		switch {
		case state == "end":
			return wrong
		case line == "# end":
			state = "end"
		case kind != nil && len(kind[1]) <= 40:
			state = "kind"
			l = append(l, impl.Family{Name: kind[1], Kind: map[string]int{"gauge": 1, "counter": 2, "hist": 3, "info": 4}[kind[2]]})
		case help != nil && state == "kind" && help[1] == l[len(l)-1].Name:
			state = "help"
			l[len(l)-1].Help = help[2]
		case point != nil && len(l) > 0:
			state = "point"
			f := &l[len(l)-1]
			p, ok := pointModel(*f, point)
			if !ok {
				return wrong
			}
			f.Points = append(f.Points, p)
		default:
			return wrong
		}
	}
	if !goodFamiliesModel(l) {
		return impl.FormRes{Err: 3}
	}
	return impl.FormRes{Families: l}
}

func pointModel(f impl.Family, m []string) (impl.Point, bool) {
	var p impl.Point
	ok := true
	read := func(s string) int {
		n, right := inDigitsModel(s)
		ok = ok && right
		return n
	}
	labels := func(s string) []impl.Label {
		l, right := impl.ReadLabels(s)
		ok = ok && right
		return l
	}
	p.Suffix = strings.TrimPrefix(m[1], f.Name)
	ok = strings.HasPrefix(m[1], f.Name) && len(m[1]) <= 40 && slices.Contains(kindSuffixes[f.Kind], p.Suffix)
	if m[2] != "" {
		p.Labels = labels(m[2])
		ok = ok && len(p.Labels) > 0
	}
	p.Value = read(m[3])
	if m[4] != "" {
		p.Timed, p.Time = true, read(m[4])
		ok = ok && p.Time >= 0 && p.Time <= maxTime
	}
	if m[5] != "" {
		p.Ex = impl.Exemplar{Has: true, Labels: labels(m[5]), Value: read(m[6])}
	}
	return p, ok
}

func checkRead(t *testing.T, text string) impl.FormRes {
	t.Helper()
	got := impl.ReadForm(text)
	if want := readFormModel(text); !same(got, want) {
		t.Fatalf("ReadForm of %q: %+v, not %+v", text, got, want)
	}
	checkOwn(t, got)
	return got
}

func TestWhichFaultComesFirst(t *testing.T) {
	long := strings.Repeat("n", 40)
	for _, x := range []struct {
		text string
		err  int
		line int
	}{
		{"", 2, 1}, {"\n", 2, 1}, {"# end", 2, 1}, {"# end\n", 0, 0}, {"# end\n\n", 2, 2}, {"# end\n# end\n", 2, 2}, {"# end\n# end", 2, 2}, {"# end\nx", 2, 2}, {"# end\n# kind a gauge\n", 2, 2}, {"# end \n", 2, 1}, {" # end\n", 2, 1},
		{"# END\n", 2, 1}, {"#end\n", 2, 1}, {"# end\r\n", 2, 1}, {"#\n# end\n", 2, 1},
		{"# kind a gauge\n", 2, 2}, {"# kind a gauge", 2, 1}, {"# kind a gauge\n\n# end\n", 2, 2}, {"# kind a gauge\na 1\n", 2, 3}, {"# kind a gauge\na 1", 2, 2}, {"# kind a gauge\na 1\n# end", 2, 3}, {"# kind a gauge\na 1\n# end\n", 0, 0},
		{"# kind a gauge\n# end\n", 0, 0}, {"# kind a gauges\n# end\n", 2, 1}, {"# kind a\n# end\n", 2, 1}, {"# kind a \n# end\n", 2, 1}, {"# kind  gauge\n# end\n", 2, 1}, {"# kind 1 gauge\n# end\n", 2, 1}, {"# kind a  gauge\n# end\n", 2, 1},
		{"# kind a gauge \n# end\n", 2, 1}, {"# kind a Gauge\n# end\n", 2, 1}, {"# kind a 1\n# end\n", 2, 1}, {"# kind " + long + " gauge\n# end\n", 0, 0}, {"# kind " + long + "n gauge\n# end\n", 2, 1}, {"#  kind a gauge\n# end\n", 2, 1}, {"# kind a-b gauge\n# end\n", 2, 1},
		{"# help a x\n# end\n", 2, 1}, {"# kind a gauge\n# help a x\n# end\n", 0, 0}, {"# kind a gauge\n# help b x\n# end\n", 2, 2}, {"# kind a gauge\n# help a x\n# help a x\n# end\n", 2, 3}, {"# kind a gauge\na 1\n# help a x\n# end\n", 2, 3},
		{"# kind a gauge\n# help a \n# end\n", 2, 2}, {"# kind a gauge\n# help a\n# end\n", 2, 2}, {"# kind a gauge\n# help a  \n# end\n", 0, 0}, {"# kind a gauge\n# help a x\ty\n# end\n", 2, 2}, {"# kind a gauge\n# help a \xe9\n# end\n", 2, 2},
		{"# kind a gauge\n# help a " + strings.Repeat("h", 100) + "\n# end\n", 0, 0}, {"# kind a gauge\n# help a " + strings.Repeat("h", 101) + "\n# end\n", 2, 2}, {"# kind a gauge\n# kind b gauge\n# help a x\n# end\n", 2, 3},
		{"a 1\n# end\n", 2, 1}, {"# kind a gauge\nb 1\n# end\n", 2, 2}, {"# kind a gauge\na_total 1\n# end\n", 2, 2}, {"# kind a counter\na 1\n# end\n", 2, 2}, {"# kind a counter\na_total 1\n# end\n", 0, 0}, {"# kind a counter\nab_total 1\n# end\n", 2, 2},
		{"# kind a counter\na_info 1\n# end\n", 2, 2}, {"# kind a hist\na 1\n# end\n", 2, 2}, {"# kind a hist\na_total 1\n# end\n", 2, 2}, {"# kind a hist\na_count 1\n# end\n", 3, 0}, {"# kind a hist\na_sum 1\n# end\n", 3, 0}, {"# kind a hist\na_bucket 1\n# end\n", 3, 0},
		{"# kind a info\na_info 1\n# end\n", 0, 0}, {"# kind a info\na_info 2\n# end\n", 3, 0}, {"# kind a info\na 1\n# end\n", 2, 2}, {"# kind ab gauge\na 1\n# end\n", 2, 2}, {"# kind a gauge\n# kind b gauge\na 1\n# end\n", 2, 3},
		{"# kind a gauge\na{} 1\n# end\n", 2, 2}, {"# kind a gauge\na {x=\"1\"} 1\n# end\n", 2, 2}, {"# kind a gauge\na{x=\"1\"}1\n# end\n", 2, 2}, {"# kind a gauge\na{x=\"1\"} 1\n# end\n", 0, 0}, {"# kind a gauge\na{x=\"\"} 1\n# end\n", 2, 2},
		{"# kind a gauge\na{x=\"1\",x=\"1\"} 1\n# end\n", 2, 2}, {"# kind a gauge\na{y=\"1\",x=\"1\"} 1\n# end\n", 2, 2}, {"# kind a gauge\na{x=\"} 1 @2 # {} 3\"} 1\n# end\n", 0, 0}, {"# kind a gauge\na{x=\"1} 1\n# end\n", 2, 2},
		{"# kind a gauge\na{_name=\"a\"} 1\n# end\n", 3, 0}, {"# kind a gauge\na" + labelsTextModel(manyLabels(20)) + " 1\n# end\n", 3, 0}, {"# kind a gauge\na" + labelsTextModel(manyLabels(21)) + " 1\n# end\n", 2, 2}, {"# kind a gauge\na" + labelsTextModel(manyLabels(19)) + " 1\n# end\n", 0, 0},
		{"# kind a gauge\n{x=\"1\"} 1\n# end\n", 2, 2}, {"# kind a gauge\na\n# end\n", 2, 2}, {"# kind a gauge\na \n# end\n", 2, 2}, {"# kind a gauge\na  1\n# end\n", 2, 2}, {"# kind a gauge\na 1 \n# end\n", 2, 2}, {"# kind a gauge\n a 1\n# end\n", 2, 2},
		{"# kind a gauge\na 01\n# end\n", 2, 2}, {"# kind a gauge\na -0\n# end\n", 2, 2}, {"# kind a gauge\na +1\n# end\n", 2, 2}, {"# kind a gauge\na 1.0\n# end\n", 2, 2}, {"# kind a gauge\na - 1\n# end\n", 2, 2}, {"# kind a gauge\na 1_0\n# end\n", 2, 2}, {"# kind a gauge\na 0x1\n# end\n", 2, 2},
		{"# kind a gauge\na 9223372036854775807\n# end\n", 0, 0}, {"# kind a gauge\na 9223372036854775808\n# end\n", 2, 2}, {"# kind a gauge\na -9223372036854775807\n# end\n", 0, 0}, {"# kind a gauge\na -9223372036854775808\n# end\n", 3, 0}, {"# kind a gauge\na -9223372036854775809\n# end\n", 2, 2},
		{"# kind a gauge\na 1 @0\n# end\n", 0, 0}, {"# kind a gauge\na 1 @\n# end\n", 2, 2}, {"# kind a gauge\na 1 @-1\n# end\n", 2, 2}, {"# kind a gauge\na 1 @1000000000000\n# end\n", 0, 0}, {"# kind a gauge\na 1 @1000000000001\n# end\n", 2, 2}, {"# kind a gauge\na 1 @01\n# end\n", 2, 2},
		{"# kind a gauge\na 1 @ 1\n# end\n", 2, 2}, {"# kind a gauge\na 1@1\n# end\n", 2, 2}, {"# kind a gauge\na 1 1\n# end\n", 2, 2}, {"# kind a gauge\na 1 @1 @1\n# end\n", 2, 2}, {"# kind a gauge\na 1 # {} 1\n# end\n", 3, 0},
		{"# kind a counter\na_total 1 # {} 1\n# end\n", 0, 0}, {"# kind a counter\na_total 1 # {} 1 @1\n# end\n", 2, 2}, {"# kind a counter\na_total 1 @1 # {} 1\n# end\n", 0, 0}, {"# kind a counter\na_total 1 # 1\n# end\n", 2, 2}, {"# kind a counter\na_total 1 # {}\n# end\n", 2, 2},
		{"# kind a counter\na_total 1 # {} \n# end\n", 2, 2}, {"# kind a counter\na_total 1 # {}1\n# end\n", 2, 2}, {"# kind a counter\na_total 1 #{} 1\n# end\n", 2, 2}, {"# kind a counter\na_total 1 # {} -9223372036854775808\n# end\n", 3, 0}, {"# kind a counter\na_total 1 # {} 1 # {} 1\n# end\n", 2, 2},
		{"# kind a counter\na_total 1 #  {} 1\n# end\n", 2, 2}, {"# kind a counter\na_total 1 # {} 01\n# end\n", 2, 2}, {"# kind a counter\na_total 1 # " + labelsTextModel(manyLabels(20)) + " 1\n# end\n", 0, 0}, {"# kind a counter\na_total -1\n# end\n", 3, 0},
		{"# kind a counter\na_total 1 # {_name=\"x\"} 1\n# end\n", 0, 0}, {"# kind a counter\na_total 1 @2 #\n# end\n", 2, 2},
		{"# kind b gauge\n# kind a gauge\n# end\n", 3, 0}, {"# kind a gauge\n# kind a gauge\n# end\n", 3, 0}, {"# kind a gauge\na 1\na 2\n# end\n", 3, 0}, {"# kind a gauge\na 1\na 2\nb 3\n# end\n", 2, 4}, {"# kind b gauge\n# kind a gauge\n# end", 2, 3}, {"# kind b gauge\n# kind a gauge\n", 2, 3},
		{"# kind a counter\na_total 1\n# kind a_total gauge\na_total 1\n# end\n", 3, 0}, {"# kind " + long + " counter\n" + long + "_total 1\n# end\n", 2, 2}, {"x\ny\n", 2, 1}, {"# kind a gauge\nx\ny\n", 2, 2},
	} {
		got := checkRead(t, x.text)
		if got.Err != x.err || got.Line != x.line || x.err != 0 && len(got.Families) > 0 {
			t.Errorf("ReadForm of %q: %+v", x.text, got)
		}
	}
}

func TestFormsChangedAtRandom(t *testing.T) {
	r := rand.New(rand.NewSource(36))
	errs := map[int]int{}
	for range 3000 {
		text := formTextModel(randomFamilies(r))
		lines := strings.SplitAfter(text, "\n")
		i, j := r.Intn(len(lines)), r.Intn(len(lines))
		switch r.Intn(4) {
		case 0:
			lines[i], lines[j] = lines[j], lines[i]
		case 1:
			lines[i] += lines[j]
		case 2:
			lines[i] = ""
		case 3:
			at := r.Intn(len(text))
			lines = []string{text[:at], randomOf(r, "{}\"\\=, #@0129-ab_\n", 2), text[at+r.Intn(2):]}
		}
		errs[checkRead(t, strings.Join(lines, "")).Err]++
	}
	for e, least := range map[int]int{0: 200, 2: 1000, 3: 100} {
		if errs[e] < least {
			t.Errorf("Err %d only %d times", e, errs[e])
		}
	}
	text := formTextModel(eachKind())
	for i := range text {
		checkRead(t, text[:i])
		checkRead(t, text[:i]+text[i+1:])
		checkRead(t, text[:i]+text[i:i+1]+text[i:])
	}
	for range 2000 {
		checkRead(t, randomOf(r, "# kindhelpgauge\na{}=\"1@", 60))
	}
}
