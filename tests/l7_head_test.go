package tests

import (
	"fmt"
	"math"
	"math/rand"
	"slices"
	"sort"
	"strconv"
	"testing"

	"loop.example/g00039/impl"
)

// seriesLabelsModel says whether labels can be those of a series.
func seriesLabelsModel(l []impl.Label) bool {
	return goodLabelsModel(l) && slices.ContainsFunc(l, func(x impl.Label) bool { return x.Name == "_name" })
}

func goodSeriesModel(l []impl.Series) bool {
	if len(l) > 200 {
		return false
	}
	for i, s := range l {
		if !seriesLabelsModel(s.Labels) || len(s.Samples) < 1 || !goodSamplesModel(s.Samples) {
			return false
		}
		if i > 0 && compareModel(l[i-1].Labels, s.Labels) != -1 {
			return false
		}
	}
	return true
}

func goodHeadModel(h impl.Head) bool {
	if h.Window < 0 || h.Window > maxTime || h.Limit < 0 || h.Limit > 200 || h.Newest < -1 || h.Newest > maxTime || !goodSeriesModel(h.Series) {
		return false
	}
	for _, s := range h.Series {
		for _, x := range s.Samples {
			if x.Time > h.Newest {
				return false
			}
		}
	}
	return len(h.Series) <= h.Limit
}

// headBook is a head as plain books: what stands at which Time, of each series by its text.
type headBook struct {
	window, limit, newest int
	labels                map[string][]impl.Label
	values                map[string]map[int]int
}

func bookOf(h impl.Head) *headBook {
	b := &headBook{h.Window, h.Limit, h.Newest, map[string][]impl.Label{}, map[string]map[int]int{}}
	for _, s := range h.Series {
		for _, x := range s.Samples {
			b.write(impl.Put{Labels: s.Labels, Time: x.Time, Value: x.Value})
		}
	}
	return b
}

func (b *headBook) write(p impl.Put) {
	text := labelsTextModel(p.Labels)
	if b.values[text] == nil {
		b.labels[text], b.values[text] = slices.Clone(p.Labels), map[int]int{}
	}
	b.values[text][p.Time] = p.Value
}

func (b *headBook) head() impl.Head {
	return impl.Head{Window: b.window, Limit: b.limit, Newest: b.newest, Series: seriesOf(b.labels, b.values)}
}

// seriesOf tells books as a list of series.
func seriesOf(labels map[string][]impl.Label, values map[string]map[int]int) []impl.Series {
	var out []impl.Series
	for text, at := range values {
		s := impl.Series{Labels: labels[text]}
		for time, v := range at {
			s.Samples = append(s.Samples, impl.Sample{Time: time, Value: v})
		}
		sort.Slice(s.Samples, func(i, j int) bool { return s.Samples[i].Time < s.Samples[j].Time })
		out = append(out, s)
	}
	sort.Slice(out, func(i, j int) bool { return compareModel(out[i].Labels, out[j].Labels) == -1 })
	return out
}

// faults tells all that speaks against a put, in the chapter's order.
func (b *headBook) faults(p impl.Put) []int {
	at := b.values[labelsTextModel(p.Labels)]
	value, there := at[p.Time]
	var out []int
	for _, f := range []struct {
		code  int
		holds bool
	}{
		{1, !seriesLabelsModel(p.Labels)},
		{2, p.Time < 0 || p.Time > maxTime},
		{3, p.Time < b.newest-b.window},
		{4, at == nil && len(b.values) == b.limit},
		{6, there && value == p.Value},
		{5, there && value != p.Value},
		{7, len(at) == 2000},
	} {
		if f.holds {
			out = append(out, f.code)
		}
	}
	return out
}

func (b *headBook) put(p impl.Put) int {
	if f := b.faults(p); len(f) > 0 {
		return f[0]
	}
	b.write(p)
	b.newest = max(b.newest, p.Time)
	return 0
}

func putAllModel(h impl.Head, puts []impl.Put) (impl.Head, []int) {
	if !goodHeadModel(h) || len(puts) > 500 {
		return impl.Head{}, nil
	}
	b := bookOf(h)
	var codes []int
	for _, p := range puts {
		codes = append(codes, b.put(p))
	}
	return b.head(), codes
}

// checkPuts holds PutAll against the model, and tells what it answered.
func checkPuts(t *testing.T, h impl.Head, puts []impl.Put) (impl.Head, []int) {
	t.Helper()
	head, headKept := guarded(h)
	list, listKept := guarded(puts)
	got, codes := impl.PutAll(head, list)
	want, wantCodes := putAllModel(h, puts)
	if !same(got, want) || !slices.Equal(codes, wantCodes) {
		t.Fatalf("PutAll of %.500s and %.500s:\n%.500s, %v\nnot %.500s, %v", fmt.Sprint(h), fmt.Sprint(puts), fmt.Sprint(got), codes, fmt.Sprint(want), wantCodes)
	}
	if !headKept() || !listKept() {
		t.Fatalf("PutAll wrote into %.500s or %.500s", fmt.Sprint(h), fmt.Sprint(puts))
	}
	checkOwn(t, struct {
		Head  impl.Head
		Codes []int
	}{got, codes}, head, list)
	return got, codes
}

// series makes a series of a name with samples.
func series(name string, samples ...impl.Sample) impl.Series {
	return impl.Series{Labels: labelsOf("_name", name), Samples: samples}
}

// manySeries are n series that rise, with a sample each.
func manySeries(n int) []impl.Series {
	var out []impl.Series
	for i := range n {
		out = append(out, series("s"+strconv.Itoa(1000+i), impl.Sample{Time: i, Value: -i}))
	}
	return out
}

// fewLabels are those of a series or, seldom, of none; so few that they meet again.
func fewLabels(r *rand.Rand) []impl.Label {
	switch r.Intn(12) {
	case 0:
		return labelsOf("job", "a")
	case 1:
		return badLabels()[r.Intn(len(badLabels()))]
	case 2, 3:
		return alikeLabels()[r.Intn(4)]
	}
	l := labelsOf("_name", []string{"up", "load", "u"}[r.Intn(3)])
	if r.Intn(2) == 0 {
		l = append(l, impl.Label{Name: "job", Value: []string{"a", "b"}[r.Intn(2)]})
	}
	return l
}

func fewPuts(r *rand.Rand, n int) []impl.Put {
	var out []impl.Put
	for i := range n {
		p := impl.Put{Labels: fewLabels(r), Time: i/2 + r.Intn(12) - 2, Value: r.Intn(2)}
		if r.Intn(20) == 0 {
			p.Time = []int{-1, maxTime + 1, math.MinInt, math.MaxInt}[r.Intn(4)]
		}
		out = append(out, p)
	}
	return out
}

// fewHead is a small head into which puts have gone already.
func fewHead(r *rand.Rand) impl.Head {
	h := impl.Head{Window: []int{0, 1, 5, 8, 100, maxTime}[r.Intn(6)], Limit: []int{0, 1, 2, 3, 5, 9, 200}[r.Intn(7)], Newest: -1}
	h, _ = putAllModel(h, fewPuts(r, r.Intn(20)))
	if r.Intn(4) == 0 {
		h.Newest += r.Intn(5)
	}
	return h
}

// alikeLabels are four lists of labels, whose hashes are the same number.
func alikeLabels() [][]impl.Label {
	var out [][]impl.Label
	for _, first := range []string{"WnpZ3e87tMn", "GNEnFkjbeqp"} {
		for _, second := range []string{"YiHvf6ri_Rc", "0ZaAwzcI5-c"} {
			out = append(out, labelsOf("_name", first+second))
		}
	}
	return out
}

// Promise 7: whatever is put, one after the other, each code and the head are those of plain books.
func TestPutsOneByOne(t *testing.T) {
	r := rand.New(rand.NewSource(71))
	seen := map[int]int{}
	for range 1500 {
		_, codes := checkPuts(t, fewHead(r), fewPuts(r, r.Intn(40)))
		for _, c := range codes {
			seen[c]++
		}
	}
	for code := impl.PutTaken; code < impl.PutFull; code++ {
		if seen[code] < 200 {
			t.Errorf("code %d just %d times", code, seen[code])
		}
	}
}

// Promise 7: puts in two parts, cut anywhere, come to what all at once come to.
func TestPutsInPartsAreAsAllAtOnce(t *testing.T) {
	r := rand.New(rand.NewSource(72))
	for range 150 {
		h, puts := fewHead(r), fewPuts(r, r.Intn(40))
		want, wantCodes := impl.PutAll(h, puts)
		for cut := range len(puts) + 1 {
			first, codes := impl.PutAll(h, puts[:cut])
			second, more := impl.PutAll(first, puts[cut:])
			if !same(second, want) || !slices.Equal(append(codes, more...), wantCodes) {
				t.Fatalf("%v, %v cut at %d: %v, not %v", h, puts, cut, second, want)
			}
		}
	}
	var puts []impl.Put
	for i := range 500 {
		puts = append(puts, impl.Put{Labels: labelsOf("_name", "s"+strconv.Itoa(i%7)), Time: i * 7 % 501, Value: i})
	}
	want, wantCodes := checkPuts(t, impl.NewHead(300, 6), puts)
	for _, cut := range []int{0, 1, 250, 499, 500} {
		first, codes := impl.PutAll(impl.NewHead(300, 6), puts[:cut])
		second, more := impl.PutAll(first, puts[cut:])
		if !same(second, want) || !slices.Equal(append(codes, more...), wantCodes) {
			t.Fatalf("500 puts cut at %d", cut)
		}
	}
}

// exactly are matchers that no labels fit but those, as far as their names go.
func exactly(l []impl.Label) []impl.Matcher {
	var m []impl.Matcher
	for _, x := range l {
		m = append(m, impl.Matcher{Name: x.Name, Op: impl.MatchSame, Value: x.Value})
	}
	return m
}

// Promise 7: what was taken is found at its Time with its Value, and what was not has changed nothing.
func TestWhatWasTakenIsFound(t *testing.T) {
	r := rand.New(rand.NewSource(73))
	taken, refused := 0, 0
	for range 400 {
		h, puts := fewHead(r), fewPuts(r, r.Intn(40))
		end, codes := impl.PutAll(h, puts)
		var kept []impl.Put
		for i, p := range puts {
			before, _ := impl.PutAll(h, puts[:i])
			after, code := impl.PutAll(before, puts[i:i+1])
			if code[0] != codes[i] {
				t.Fatalf("%v, %v: put %d alone: %v", h, puts, i, code)
			}
			if codes[i] != impl.PutTaken {
				refused++
				if !same(before, after) {
					t.Fatalf("code %d, but %v became %v", codes[i], before, after)
				}
				continue
			}
			taken++
			kept = append(kept, p)
			if after.Newest != max(before.Newest, p.Time) {
				t.Fatalf("Newest %d behind %d and %d", after.Newest, before.Newest, p.Time)
			}
			for _, x := range []impl.Head{after, end} {
				want := impl.Series{Labels: p.Labels, Samples: []impl.Sample{{Time: p.Time, Value: p.Value}}}
				if got := impl.SelectHead(x, exactly(p.Labels), p.Time, p.Time); !slices.ContainsFunc(got, func(s impl.Series) bool { return same(s, want) }) {
					t.Fatalf("%v is not found in %v", p, x)
				}
			}
		}
		again, all := impl.PutAll(h, kept)
		if !same(again, end) || slices.Max(append(all, 0)) != impl.PutTaken {
			t.Fatalf("those that were taken alone: %v, %v, not %v", again, all, end)
		}
	}
	if taken < 1000 || refused < 1000 {
		t.Errorf("just %d taken and %d refused", taken, refused)
	}
}

// Where several faults hold at once the first one in the chapter's order is told.
func TestOrderOfRefusals(t *testing.T) {
	full := impl.Series{Labels: labelsOf("_name", "full"), Samples: steadySamples(2000, 1, 1, 5)}
	small := series("small", impl.Sample{Time: 5, Value: 1}, impl.Sample{Time: 100, Value: 1})
	other, bare := labelsOf("_name", "other"), labelsOf("job", "a")
	crooked := labelsOf("_name", "up", "A", "x")
	room := impl.Head{Window: 1990, Limit: 3, Newest: 2000, Series: []impl.Series{full, small}}
	tight := room
	tight.Limit = 2
	for _, c := range []struct {
		name   string
		head   impl.Head
		put    impl.Put
		faults []int
	}{
		{"none", room, impl.Put{Labels: other, Time: 10}, nil},
		{"labels", room, impl.Put{Labels: bare, Time: 10}, []int{1}},
		{"labels that do not rise", room, impl.Put{Labels: crooked, Time: 10}, []int{1}},
		{"no labels", room, impl.Put{Time: 10}, []int{1}},
		{"time", room, impl.Put{Labels: small.Labels, Time: maxTime + 1, Value: 1}, []int{2}},
		{"old", room, impl.Put{Labels: small.Labels, Time: 9}, []int{3}},
		{"many", tight, impl.Put{Labels: other, Time: 10}, []int{4}},
		{"again", room, impl.Put{Labels: small.Labels, Time: 100, Value: 1}, []int{6}},
		{"twice", room, impl.Put{Labels: small.Labels, Time: 100, Value: 2}, []int{5}},
		{"full", room, impl.Put{Labels: full.Labels, Time: 2001}, []int{7}},

		{"labels and time", room, impl.Put{Labels: bare, Time: maxTime + 1}, []int{1, 2}},
		{"labels and old", room, impl.Put{Labels: bare, Time: 9}, []int{1, 3}},
		{"labels and many", tight, impl.Put{Labels: crooked, Time: 10}, []int{1, 4}},
		{"labels, time and old", room, impl.Put{Labels: crooked, Time: -1}, []int{1, 2, 3}},
		{"labels, time, old and many", tight, impl.Put{Labels: bare, Time: math.MinInt}, []int{1, 2, 3, 4}},
		{"time and old", room, impl.Put{Labels: small.Labels, Time: -1}, []int{2, 3}},
		{"time and many", tight, impl.Put{Labels: other, Time: math.MaxInt}, []int{2, 4}},
		{"time and full", room, impl.Put{Labels: full.Labels, Time: maxTime + 1}, []int{2, 7}},
		{"time, old and full", room, impl.Put{Labels: full.Labels, Time: -1}, []int{2, 3, 7}},
		{"old and many", tight, impl.Put{Labels: other, Time: 9}, []int{3, 4}},
		{"old and again", room, impl.Put{Labels: small.Labels, Time: 5, Value: 1}, []int{3, 6}},
		{"old and twice", room, impl.Put{Labels: small.Labels, Time: 5, Value: 2}, []int{3, 5}},
		{"old and full", room, impl.Put{Labels: full.Labels, Time: 0}, []int{3, 7}},
		{"old, again and full", room, impl.Put{Labels: full.Labels, Time: 9, Value: 5}, []int{3, 6, 7}},
		{"old, twice and full", room, impl.Put{Labels: full.Labels, Time: 9, Value: 6}, []int{3, 5, 7}},
		{"again and full", room, impl.Put{Labels: full.Labels, Time: 10, Value: 5}, []int{6, 7}},
		{"again and full, the last one", tight, impl.Put{Labels: full.Labels, Time: 2000, Value: 5}, []int{6, 7}},
		{"twice and full", room, impl.Put{Labels: full.Labels, Time: 10, Value: 4}, []int{5, 7}},
		{"twice and full, the last one", tight, impl.Put{Labels: full.Labels, Time: 2000, Value: math.MinInt}, []int{5, 7}},
		{"full, in a head that is", tight, impl.Put{Labels: full.Labels, Time: maxTime}, []int{7}},
	} {
		if f := bookOf(c.head).faults(c.put); !slices.Equal(f, c.faults) {
			t.Fatalf("%s: %v", c.name, f)
		}
		want := 0
		if len(c.faults) > 0 {
			want = c.faults[0]
		}
		if h, codes := checkPuts(t, c.head, []impl.Put{c.put}); !slices.Equal(codes, []int{want}) || want != 0 && !same(h, c.head) {
			t.Errorf("%s: %v", c.name, codes)
		}
	}
}

func TestPutsThatAreOld(t *testing.T) {
	up := labelsOf("_name", "up")
	for _, c := range []struct {
		window, newest, time, code int
	}{
		{10, 100, 90, impl.PutTaken}, {10, 100, 89, impl.PutOld}, {10, 100, 101, impl.PutTaken}, {10, 100, maxTime, impl.PutTaken}, {10, 100, 0, impl.PutOld},
		{0, 100, 100, impl.PutTaken}, {0, 100, 99, impl.PutOld}, {100, 100, 0, impl.PutTaken}, {99, 100, 0, impl.PutOld}, {99, 100, 1, impl.PutTaken},
		{0, -1, 0, impl.PutTaken}, {0, -1, -1, impl.PutTime}, {0, -1, -2, impl.PutTime}, {5, -1, 0, impl.PutTaken}, {maxTime, -1, 0, impl.PutTaken}, {0, 0, 0, impl.PutTaken}, {0, -1, maxTime, impl.PutTaken}, {0, -1, maxTime + 1, impl.PutTime},
		{maxTime, maxTime, 0, impl.PutTaken}, {maxTime - 1, maxTime, 0, impl.PutOld}, {maxTime - 1, maxTime, 1, impl.PutTaken}, {0, maxTime, maxTime, impl.PutTaken}, {0, maxTime, maxTime - 1, impl.PutOld},
	} {
		h := impl.Head{Window: c.window, Limit: 1, Newest: c.newest}
		got, codes := checkPuts(t, h, []impl.Put{{Labels: up, Time: c.time, Value: 7}})
		if codes[0] != c.code || c.code == 0 && got.Newest != max(c.newest, c.time) {
			t.Errorf("%+v: %v, %v", c, codes, got)
		}
	}
	// What is taken pushes the edge on for those behind it in the same call.
	_, codes := checkPuts(t, impl.NewHead(10, 1), []impl.Put{{Labels: up, Time: 20}, {Labels: up, Time: 10}, {Labels: up, Time: 21}, {Labels: up, Time: 10}, {Labels: up, Time: 11}, {Labels: up, Time: 15}})
	if !slices.Equal(codes, []int{impl.PutTaken, impl.PutTaken, impl.PutTaken, impl.PutOld, impl.PutTaken, impl.PutTaken}) {
		t.Error(codes)
	}
	// What is refused does not.
	_, codes = checkPuts(t, impl.NewHead(10, 1), []impl.Put{{Labels: up, Time: 20}, {Labels: labelsOf("job", "a"), Time: 90}, {Labels: labelsOf("_name", "v"), Time: 90}, {Labels: up, Time: maxTime + 1}, {Labels: up, Time: 10}})
	if !slices.Equal(codes, []int{impl.PutTaken, impl.PutLabels, impl.PutMany, impl.PutTime, impl.PutTaken}) {
		t.Error(codes)
	}
}

func TestPutsOfTooManySeries(t *testing.T) {
	for _, limit := range []int{0, 1, 3, 199, 200} {
		h := impl.Head{Window: 500, Limit: limit, Newest: 300, Series: manySeries(limit)}
		_, codes := checkPuts(t, h, []impl.Put{{Labels: labelsOf("_name", "new"), Time: 300}, {Labels: labelsOf("_name", "s1000", "A", "b"), Time: 300}, {Labels: labelsOf("_name", "s1000", "job", "b"), Time: 300}})
		if !slices.Equal(codes, []int{impl.PutMany, impl.PutLabels, impl.PutMany}) {
			t.Errorf("limit %d: %v", limit, codes)
		}
		if limit == 0 {
			continue
		}
		last := h.Series[limit-1].Labels
		if _, codes = checkPuts(t, h, []impl.Put{{Labels: last, Time: 301}, {Labels: h.Series[0].Labels, Time: 302}}); !slices.Equal(codes, []int{0, 0}) {
			t.Errorf("limit %d, into those that are there: %v", limit, codes)
		}
		h.Series = h.Series[:limit-1]
		if _, codes = checkPuts(t, h, []impl.Put{{Labels: last, Time: 301}, {Labels: labelsOf("_name", "x"), Time: 302}, {Labels: last, Time: 300}}); !slices.Equal(codes, []int{0, impl.PutMany, 0}) {
			t.Errorf("limit %d, one below it: %v", limit, codes)
		}
	}
}

func TestPutsIntoAFullSeries(t *testing.T) {
	up := labelsOf("_name", "up")
	for _, missing := range []int{0, 2, 2000, 3998} {
		all := steadySamples(2000, 0, 2, 5)
		at, _ := slices.BinarySearchFunc(all, missing, func(s impl.Sample, time int) int { return s.Time - time })
		h := impl.Head{Window: 5000, Limit: 1, Newest: 4500, Series: []impl.Series{{Labels: up, Samples: slices.Delete(slices.Clone(all), at, at+1)}}}
		got, codes := checkPuts(t, h, []impl.Put{{Labels: up, Time: missing, Value: 5}, {Labels: up, Time: missing, Value: 5}, {Labels: up, Time: missing, Value: 4}, {Labels: up, Time: 1}, {Labels: up, Time: 3997}, {Labels: up, Time: 4001}, {Labels: up, Time: 4600}, {Labels: up, Time: 100, Value: 5}, {Labels: up, Time: 100, Value: -5}})
		if !slices.Equal(codes, []int{0, impl.PutAgain, impl.PutTwice, impl.PutFull, impl.PutFull, impl.PutFull, impl.PutFull, impl.PutAgain, impl.PutTwice}) {
			t.Errorf("without %d: %v", missing, codes)
		}
		if !slices.Equal(got.Series[0].Samples, all) || got.Newest != 4500 {
			t.Errorf("without %d: Newest %d, %d samples", missing, got.Newest, len(got.Series[0].Samples))
		}
	}
}

func TestPutsStandWhereTheirTimesBelong(t *testing.T) {
	up := labelsOf("_name", "up")
	h := impl.Head{Window: 100, Limit: 1, Newest: 30, Series: []impl.Series{{Labels: up, Samples: []impl.Sample{{Time: 10, Value: 1}, {Time: 20, Value: 2}, {Time: 30, Value: 3}}}}}
	for _, c := range []struct {
		time, at, newest int
	}{{0, 0, 30}, {9, 0, 30}, {11, 1, 30}, {19, 1, 30}, {25, 2, 30}, {29, 2, 30}, {31, 3, 31}, {maxTime, 3, maxTime}} {
		got, codes := checkPuts(t, h, []impl.Put{{Labels: up, Time: c.time, Value: impl.StaleMark}})
		if codes[0] != 0 || got.Newest != c.newest || len(got.Series[0].Samples) != 4 || got.Series[0].Samples[c.at] != (impl.Sample{Time: c.time, Value: impl.StaleMark}) {
			t.Errorf("at %d: %v, %v", c.time, codes, got)
		}
	}
	// New series stand where their labels belong, however they come.
	var puts []impl.Put
	for _, name := range []string{"m", "z", "a", "mm", "A", "_", "0"} {
		puts = append(puts, impl.Put{Labels: labelsOf("_name", name, "z", "1"), Time: 5}, impl.Put{Labels: labelsOf("A", "1", "_name", name), Time: 5}, impl.Put{Labels: labelsOf("_name", name), Time: 5})
	}
	got, codes := checkPuts(t, impl.NewHead(0, 200), puts)
	if slices.Max(codes) != 0 || len(got.Series) != 21 || impl.LabelsText(got.Series[0].Labels) != `{A="1",_name="0"}` {
		t.Error(codes, got)
	}
}

// Labels whose hashes are alike are those of series of their own.
func TestSeriesWhoseHashesAreAlike(t *testing.T) {
	alike := alikeLabels()
	var puts []impl.Put
	for i, l := range alike {
		if impl.HashLabels(l) != impl.HashLabels(alike[0]) || impl.HashLabels(l) != slowMix([]byte(labelsTextModel(l))) {
			t.Fatalf("%v: %d", l, impl.HashLabels(l))
		}
		puts = append(puts, impl.Put{Labels: l, Time: 10, Value: i})
	}
	h, codes := checkPuts(t, impl.NewHead(5, 4), puts)
	if !slices.Equal(codes, []int{0, 0, 0, 0}) || len(h.Series) != 4 {
		t.Fatal(codes, h)
	}
	for i, l := range alike {
		if got := impl.SelectHead(h, exactly(l), 0, 20); len(got) != 1 || got[0].Samples[0].Value != i {
			t.Errorf("%v: %v", l, got)
		}
		again, codes := checkPuts(t, h, []impl.Put{{Labels: l, Time: 10, Value: i}, {Labels: l, Time: 10, Value: 9}, {Labels: l, Time: 11, Value: 9}})
		if !slices.Equal(codes, []int{impl.PutAgain, impl.PutTwice, 0}) || len(again.Series) != 4 {
			t.Errorf("%v: %v", l, codes)
		}
	}
	if _, codes = checkPuts(t, impl.NewHead(5, 3), puts); !slices.Equal(codes, []int{0, 0, 0, impl.PutMany}) {
		t.Error("a limit of three:", codes)
	}
	slices.Reverse(puts)
	if _, codes = checkPuts(t, impl.NewHead(5, 1), append(puts, puts[0])); !slices.Equal(codes, []int{0, impl.PutMany, impl.PutMany, impl.PutMany, impl.PutAgain}) {
		t.Error("a limit of one:", codes)
	}
	for i := range puts {
		puts[i].Labels = append(puts[i].Labels, impl.Label{Name: "job", Value: "a"})
	}
	if h, codes = checkPuts(t, h, puts); !slices.Equal(codes, []int{4, 4, 4, 4}) {
		t.Error("with more labels:", codes)
	}
}

func TestPutsAtTheirLimits(t *testing.T) {
	puts := make([]impl.Put, 501)
	for i := range puts {
		puts[i] = impl.Put{Labels: labelsOf("_name", "s"+strconv.Itoa(i%210)), Time: i % 300, Value: i % 7}
	}
	if h, codes := checkPuts(t, impl.NewHead(maxTime, 200), puts[:500]); len(codes) != 500 || len(h.Series) != 200 {
		t.Errorf("500 puts: %d codes, %d series", len(codes), len(h.Series))
	}
	if h, codes := checkPuts(t, impl.NewHead(maxTime, 200), puts); len(codes) != 0 || !same(h, impl.Head{}) {
		t.Errorf("501 puts: %v, %v", h, codes)
	}
	if h, codes := impl.PutAll(impl.NewHead(5, 5), make([]impl.Put, 1<<16)); len(codes) != 0 || !same(h, impl.Head{}) {
		t.Errorf("very many puts: %v, %v", h, codes)
	}
	if _, codes := impl.PutAll(impl.NewHead(5, 5), []impl.Put{{Labels: manyLabels(1 << 16), Time: 5}}); !slices.Equal(codes, []int{1}) {
		t.Errorf("very many labels: %v", codes)
	}
	r := rand.New(rand.NewSource(74))
	for range 100 {
		h := fewHead(r)
		for _, none := range [][]impl.Put{nil, {}} {
			if got, codes := checkPuts(t, h, none); !same(got, h) || len(codes) != 0 {
				t.Fatalf("no puts: %v, %v", got, codes)
			}
		}
	}
	if h, codes := checkPuts(t, impl.Head{}, puts[:3]); !slices.Equal(codes, []int{4, 4, 4}) || h.Newest != 0 {
		t.Errorf("the zero head, which is a good one: %v, %v", h, codes)
	}
	long := impl.Put{Labels: manyLabels(1 << 11), Time: 5}
	if _, codes := checkPuts(t, impl.NewHead(5, 5), []impl.Put{long, {Labels: append(labelsOf("_name", "a"), manyLabels(19)...), Time: 1}, {Labels: append(labelsOf("_name", "a"), manyLabels(20)...), Time: 1}}); !slices.Equal(codes, []int{1, 0, 1}) {
		t.Error("many labels:", codes)
	}
	// The greatest head there is takes what its series have room for.
	head := impl.Head{Window: maxTime, Limit: 200, Newest: 3000, Series: manySeries(200)}
	for i := range head.Series {
		head.Series[i].Samples = steadySamples(2000, 0, 1, i)
	}
	head.Series[7].Samples = head.Series[7].Samples[:1999]
	if got, codes := impl.PutAll(head, []impl.Put{{Labels: head.Series[6].Labels, Time: 2000}, {Labels: head.Series[7].Labels, Time: 2000}, {Labels: head.Series[7].Labels, Time: 2001}}); !slices.Equal(codes, []int{7, 0, 7}) || len(got.Series) != 200 || len(got.Series[7].Samples) != 2000 {
		t.Error("the greatest head:", codes)
	}
}

// badSeries are lists of series that are not good.
func badSeries() [][]impl.Series {
	one, two, three := series("a", impl.Sample{Time: 1}), series("b", impl.Sample{Time: 1}), series("c", impl.Sample{Time: 1})
	more := impl.Series{Labels: labelsOf("_name", "a", "job", "x"), Samples: one.Samples}
	out := [][]impl.Series{
		{two, one}, {one, one}, {one, three, two}, {one, two, two}, {more, one}, {one, two, one}, {three, two, one},
		{{}}, {series("a")}, {one, series("b")}, {series("a", impl.Sample{Time: 1}), {Labels: two.Labels, Samples: []impl.Sample{}}},
		{{Samples: one.Samples}}, {{Labels: labelsOf("job", "a"), Samples: one.Samples}}, {{Labels: labelsOf("_Name", "a"), Samples: one.Samples}}, {{Labels: labelsOf("_nam", "a", "_name_", "a"), Samples: one.Samples}}, {one, {Labels: labelsOf("job", "a"), Samples: one.Samples}},
		{{Labels: labelsOf("_name", ""), Samples: one.Samples}}, {{Labels: append(labelsOf("_name", "a"), manyLabels(20)...), Samples: one.Samples}},
		manySeries(201), manySeries(1 << 12), make([]impl.Series, 1<<16),
	}
	for _, l := range badLabels() {
		out = append(out, []impl.Series{{Labels: append(labelsOf("_name", "a"), l...), Samples: one.Samples}})
	}
	for _, l := range badSamples() {
		out = append(out, []impl.Series{{Labels: two.Labels, Samples: l}}, []impl.Series{one, {Labels: two.Labels, Samples: l}, three})
	}
	return out
}

func TestSeriesThatAreGood(t *testing.T) {
	r := rand.New(rand.NewSource(75))
	check := func(l []impl.Series) bool {
		t.Helper()
		arg, kept := guarded(l)
		got := impl.GoodSeries(arg)
		if got != goodSeriesModel(l) || !kept() {
			t.Fatalf("GoodSeries of %.300s: %v", fmt.Sprint(l), got)
		}
		return got
	}
	for i, l := range badSeries() {
		if check(l) {
			t.Errorf("bad series %d: %.300s", i, fmt.Sprint(l))
		}
	}
	for i, l := range [][]impl.Series{
		nil, {}, manySeries(1), manySeries(199), manySeries(200),
		{series("a", impl.Sample{Time: maxTime, Value: impl.StaleMark})}, {series("a", steadySamples(2000, 0, 1, 1)...)},
		{{Labels: append(labelsOf("_name", "a"), manyLabels(19)...), Samples: []impl.Sample{{}}}},
		{{Labels: labelsOf("A", "1", "_name", "b"), Samples: []impl.Sample{{}}}, series("a", impl.Sample{}), {Labels: labelsOf("_name", "a", "b", "c"), Samples: []impl.Sample{{}}}, series("b", impl.Sample{})},
	} {
		if !check(l) {
			t.Errorf("good series %d: %.300s", i, fmt.Sprint(l))
		}
	}
	good := 0
	for range 1000 {
		l := slices.Clone(fewHead(r).Series)
		for range r.Intn(2) {
			if len(l) > 1 {
				i, j := r.Intn(len(l)), r.Intn(len(l))
				l[i], l[j] = l[j], l[i]
			}
		}
		if r.Intn(8) == 0 && len(l) > 0 {
			l[r.Intn(len(l))] = l[r.Intn(len(l))]
		}
		if r.Intn(8) == 0 && len(l) > 0 {
			l[r.Intn(len(l))].Samples = nearSamples(r, 2)
		}
		if check(l) {
			good++
		}
	}
	if good < 300 || good > 900 {
		t.Errorf("%d good ones", good)
	}
}

// badHeads are heads that are not good.
func badHeads() []impl.Head {
	one := []impl.Series{series("a", impl.Sample{Time: 5}, impl.Sample{Time: 9})}
	two := append(slices.Clone(one), series("b", impl.Sample{Time: 50}))
	three := append(slices.Clone(two), series("c", impl.Sample{Time: 7}))
	out := []impl.Head{
		{Window: -1, Limit: 5, Newest: 9, Series: one}, {Window: maxTime + 1, Limit: 5, Newest: 9, Series: one}, {Window: math.MinInt, Limit: 5, Newest: 9}, {Window: math.MaxInt, Limit: 5, Newest: 9},
		{Limit: -1, Newest: -1}, {Limit: 201, Newest: 9, Series: one}, {Limit: math.MinInt, Newest: 9}, {Limit: math.MaxInt, Newest: 9},
		{Limit: 0, Newest: 9, Series: one}, {Limit: 1, Newest: 50, Series: two}, {Limit: 199, Newest: 500, Series: manySeries(200)}, {Limit: 200, Newest: 500, Series: manySeries(201)},
		{Limit: 5, Newest: -1, Series: one}, {Limit: 5, Newest: 8, Series: one}, {Limit: 5, Newest: 5, Series: one}, {Limit: 5, Newest: 49, Series: two}, {Limit: 5, Newest: 9, Series: two}, {Limit: 5, Newest: 49, Series: three}, {Limit: 5, Newest: -1, Series: []impl.Series{series("a", impl.Sample{})}},
		{Limit: 5, Newest: -2}, {Limit: 5, Newest: -2, Series: one}, {Limit: 5, Newest: math.MinInt}, {Limit: 5, Newest: maxTime + 1}, {Limit: 5, Newest: maxTime + 1, Series: one}, {Limit: 5, Newest: math.MaxInt, Series: one},
	}
	for _, l := range badSeries() {
		out = append(out, impl.Head{Window: 10, Limit: 200, Newest: maxTime, Series: l})
	}
	return out
}

func TestHeadsThatAreGood(t *testing.T) {
	one := []impl.Series{series("a", impl.Sample{Time: 5}, impl.Sample{Time: 9})}
	check := func(h impl.Head) bool {
		t.Helper()
		arg, kept := guarded(h)
		got := impl.GoodHead(arg)
		if got != goodHeadModel(h) || !kept() {
			t.Fatalf("GoodHead of %.300s: %v", fmt.Sprint(h), got)
		}
		return got
	}
	for i, h := range badHeads() {
		if check(h) {
			t.Errorf("bad head %d: %.300s", i, fmt.Sprint(h))
		}
		if got, codes := checkPuts(t, h, []impl.Put{{Labels: labelsOf("_name", "a"), Time: 5}}); !same(got, impl.Head{}) || len(codes) != 0 {
			t.Errorf("bad head %d: %v, %v", i, got, codes)
		}
		checkSelect(t, h, nil, 0, maxTime)
	}
	for i, h := range []impl.Head{
		{}, {Newest: -1}, {Newest: maxTime}, {Window: maxTime, Limit: 200, Newest: -1}, {Window: maxTime, Limit: 1, Newest: 9, Series: one}, {Limit: 1, Newest: 10, Series: one}, {Limit: 200, Newest: maxTime, Series: one}, {Limit: 200, Newest: 199, Series: manySeries(200)}, {Limit: 199, Newest: 198, Series: manySeries(199)}, {Limit: 1, Newest: 0, Series: []impl.Series{series("a", impl.Sample{})}}, {Limit: 1, Newest: maxTime, Series: []impl.Series{series("a", impl.Sample{Time: maxTime})}},
	} {
		if !check(h) {
			t.Errorf("good head %d: %.300s", i, fmt.Sprint(h))
		}
	}
	r := rand.New(rand.NewSource(76))
	good := 0
	for range 1000 {
		h := fewHead(r)
		switch r.Intn(6) {
		case 0:
			h.Newest += r.Intn(5) - 2
		case 1:
			h.Limit = len(h.Series) + r.Intn(3) - 1
		case 2:
			h.Window = r.Intn(3) - 1
		}
		if check(h) {
			good++
		}
	}
	if good < 300 || good > 900 {
		t.Errorf("%d good ones", good)
	}
}

func TestNewHeads(t *testing.T) {
	for _, window := range []int{math.MinInt, -1, 0, 1, 77, maxTime - 1, maxTime, maxTime + 1, math.MaxInt} {
		for _, limit := range []int{math.MinInt, -1, 0, 1, 77, 199, 200, 201, math.MaxInt} {
			want := impl.Head{}
			if window >= 0 && window <= maxTime && limit >= 0 && limit <= 200 {
				want = impl.Head{Window: window, Limit: limit, Newest: -1}
			}
			got := impl.NewHead(window, limit)
			if !same(got, want) || !impl.GoodHead(got) {
				t.Errorf("NewHead of %d and %d: %v", window, limit, got)
			}
		}
	}
}

func goodMatchersModel(m []impl.Matcher) bool {
	for _, x := range m {
		if !isNameModel(x.Name) || len(x.Value) > 100 || !isPrintedModel(x.Value) || x.Op < 1 || x.Op > 4 {
			return false
		}
		if _, good := patternModel(x.Value); x.Op > 2 && !good {
			return false
		}
	}
	return len(m) <= 10
}

// selectModel tells what stands in from..to of the series that all matchers fit.
func selectModel(l []impl.Series, m []impl.Matcher, from int, to int) []impl.Series {
	var out []impl.Series
	for _, s := range l {
		fits := !slices.ContainsFunc(m, func(x impl.Matcher) bool { return !fitsModel(x, s.Labels) })
		if samples := cutModel(s.Samples, from, to); fits && len(samples) > 0 {
			out = append(out, impl.Series{Labels: s.Labels, Samples: samples})
		}
	}
	return out
}

func checkSelect(t *testing.T, h impl.Head, m []impl.Matcher, from int, to int) []impl.Series {
	t.Helper()
	head, headKept := guarded(h)
	list, listKept := guarded(m)
	got := impl.SelectHead(head, list, from, to)
	var want []impl.Series
	if goodHeadModel(h) && goodMatchersModel(m) {
		want = selectModel(h.Series, m, from, to)
	}
	if !same(got, want) || !headKept() || !listKept() {
		t.Fatalf("SelectHead of %.500s, %v, %d, %d: %.500s, not %.500s", fmt.Sprint(h), m, from, to, fmt.Sprint(got), fmt.Sprint(want))
	}
	checkOwn(t, got, head, list)
	return got
}

func TestSelectHead(t *testing.T) {
	r := rand.New(rand.NewSource(77))
	some := 0
	for range 1500 {
		h := fewHead(r)
		var m []impl.Matcher
		for range r.Intn(3) {
			m = append(m, impl.Matcher{Name: []string{"_name", "job", "none"}[r.Intn(3)], Op: 1 + r.Intn(4), Value: []string{"up", "u*", "a", "b", "", "a|b", "?"}[r.Intn(7)]})
		}
		from := r.Intn(30) - 5
		if got := checkSelect(t, h, m, from, from+r.Intn(20)-3); len(got) > 0 {
			some++
		}
	}
	if some < 200 {
		t.Errorf("just %d of them told some", some)
	}
	h := impl.Head{Window: 5, Limit: 9, Newest: maxTime, Series: []impl.Series{
		series("a", steadySamples(5, 0, 10, 1)...),
		{Labels: labelsOf("_name", "a", "job", "x"), Samples: []impl.Sample{{Time: 20, Value: impl.StaleMark}}},
		series("b", impl.Sample{Time: 0}, impl.Sample{Time: maxTime}),
	}}
	edges := []int{math.MinInt, -1, 0, 1, 9, 10, 20, 39, 40, 41, maxTime - 1, maxTime, maxTime + 1, math.MaxInt}
	for _, from := range edges {
		for _, to := range edges {
			got := checkSelect(t, h, nil, from, to)
			if from > to && len(got) > 0 {
				t.Errorf("%d to %d: %v", from, to, got)
			}
			checkSelect(t, h, []impl.Matcher{{Name: "job", Op: impl.MatchSame}}, from, to)
			checkSelect(t, h, []impl.Matcher{{Name: "_name", Op: impl.MatchSame, Value: "a"}, {Name: "job", Op: impl.MatchNot}}, from, to)
		}
	}
	if got := checkSelect(t, h, nil, math.MinInt, math.MaxInt); !same(got, h.Series) {
		t.Errorf("all of it: %v", got)
	}
	if got := checkSelect(t, h, nil, 20, 20); len(got) != 2 || len(got[0].Samples) != 1 {
		t.Errorf("at 20: %v", got)
	}
	for _, m := range badMatchers() {
		if got := checkSelect(t, h, m, math.MinInt, math.MaxInt); len(got) > 0 {
			t.Errorf("%v: %v", m, got)
		}
	}
	if got := checkSelect(t, h, manyMatchers(10), 0, 50); len(got) > 0 {
		t.Error(got)
	}
}

// mergeSeriesModel lays a's books over b's.
func mergeSeriesModel(a []impl.Series, b []impl.Series) []impl.Series {
	if !goodSeriesModel(a) || !goodSeriesModel(b) {
		return nil
	}
	book := bookOf(impl.Head{Series: b})
	for _, s := range a {
		for _, x := range s.Samples {
			book.write(impl.Put{Labels: s.Labels, Time: x.Time, Value: x.Value})
		}
	}
	if out := book.head().Series; goodSeriesModel(out) {
		return out
	}
	return nil
}

func checkMergeSeries(t *testing.T, a []impl.Series, b []impl.Series) []impl.Series {
	t.Helper()
	x, xKept := guarded(a)
	y, yKept := guarded(b)
	got := impl.MergeSeries(x, y)
	if want := mergeSeriesModel(a, b); !same(got, want) || !xKept() || !yKept() {
		t.Fatalf("MergeSeries of %.500s and %.500s: %.500s, not %.500s", fmt.Sprint(a), fmt.Sprint(b), fmt.Sprint(got), fmt.Sprint(want))
	}
	checkOwn(t, got, x, y)
	return got
}

func TestMergedSeries(t *testing.T) {
	r := rand.New(rand.NewSource(78))
	for range 1000 {
		a, b := fewHead(r).Series, fewHead(r).Series
		checkMergeSeries(t, a, b)
		if got := checkMergeSeries(t, a, a); !same(got, a) {
			t.Fatalf("%v with itself: %v", a, got)
		}
		if !same(checkMergeSeries(t, a, nil), a) || !same(checkMergeSeries(t, []impl.Series{}, a), a) {
			t.Fatalf("%v beside none", a)
		}
	}
	for _, n := range []int{13, 50, 200} {
		a, b := manySeries(n), manySeries(n)
		for i := range b {
			b[i].Samples = []impl.Sample{{Time: i, Value: 77}}
		}
		if !same(checkMergeSeries(t, a, b), a) || !same(checkMergeSeries(t, b, a), b) {
			t.Errorf("%d series that both have: a's samples do not count", n)
		}
	}
	a, b := []impl.Series{series("a", steadySamples(4, 0, 10, 1)...)}, []impl.Series{series("a", steadySamples(4, 20, 10, 2)...)}
	for _, c := range []struct {
		a, b []impl.Series
		want []int
	}{{a, b, []int{1, 1, 1, 1, 2, 2}}, {b, a, []int{1, 1, 2, 2, 2, 2}}} {
		got := checkMergeSeries(t, c.a, c.b)
		if len(got) != 1 || len(got[0].Samples) != 6 {
			t.Fatal(got)
		}
		for i, s := range got[0].Samples {
			if s.Time != i*10 || s.Value != c.want[i] {
				t.Errorf("sample %d: %v", i, s)
			}
		}
	}
}

func TestMergedSeriesAtTheirLimits(t *testing.T) {
	all := manySeries(201)
	for _, c := range []struct {
		name string
		a, b []impl.Series
		want int
	}{
		{"200 beside none", all[:200], nil, 200},
		{"200 with themselves", all[:200], all[:200], 200},
		{"199 and one", all[:199], all[199:200], 200},
		{"100 and 100", all[:100], all[100:200], 200},
		{"over each other", all[:150], all[50:200], 200},
		{"200 and one", all[:200], all[200:], 0},
		{"101 and 100", all[:101], all[101:], 0},
		{"over each other, one too many", all[:150], all[50:], 0},
		{"200 and some that are there", all[1:], all[5:9], 200},
		{"2000 samples", []impl.Series{series("a", steadySamples(1000, 0, 2, 1)...)}, []impl.Series{series("a", steadySamples(1000, 1, 2, 1)...)}, 1},
		{"2001 samples", []impl.Series{series("a", steadySamples(1000, 0, 2, 1)...)}, []impl.Series{series("a", steadySamples(1001, 1, 2, 1)...)}, 0},
		{"2000 and one of them", []impl.Series{series("a", steadySamples(2000, 0, 1, 1)...)}, []impl.Series{series("a", impl.Sample{Time: 77, Value: 7})}, 1},
		{"2000 and one more, beside others", []impl.Series{series("a", steadySamples(2000, 0, 1, 1)...), series("b", impl.Sample{})}, []impl.Series{series("a", impl.Sample{Time: maxTime})}, 0},
		{"2000 of each of two", []impl.Series{series("a", steadySamples(2000, 0, 1, 1)...)}, []impl.Series{series("b", steadySamples(2000, 0, 1, 1)...)}, 2},
	} {
		if x, y := checkMergeSeries(t, c.a, c.b), checkMergeSeries(t, c.b, c.a); len(x) != c.want || len(y) != c.want {
			t.Errorf("%s: %d, %d", c.name, len(x), len(y))
		}
	}
	for _, bad := range badSeries() {
		for _, other := range [][]impl.Series{nil, manySeries(2)} {
			if x, y := checkMergeSeries(t, bad, other), checkMergeSeries(t, other, bad); len(x) > 0 || len(y) > 0 {
				t.Errorf("bad series: %.300s, %.300s", fmt.Sprint(x), fmt.Sprint(y))
			}
		}
	}
}

func valuesModel(l []impl.Series, name string) []string {
	found := map[string]bool{}
	for _, s := range l {
		for _, x := range s.Labels {
			if x.Name == name && goodSeriesModel(l) {
				found[x.Value] = true
			}
		}
	}
	var out []string
	for v := range found {
		out = append(out, v)
	}
	sort.Strings(out)
	return out
}

func TestValuesOfSeries(t *testing.T) {
	r := rand.New(rand.NewSource(79))
	lists := append(badSeries(), nil, manySeries(200))
	for range 300 {
		lists = append(lists, fewHead(r).Series)
	}
	for _, l := range lists {
		arg, kept := guarded(l)
		for _, name := range []string{"_name", "job", "a", "none", "", "1", "a b", "é", "_nam", "_namee"} {
			if got := impl.ValuesOf(arg, name); !slices.Equal(got, valuesModel(l, name)) {
				t.Fatalf("ValuesOf of %.300s, %q: %v", fmt.Sprint(l), name, got)
			}
		}
		if !kept() {
			t.Fatalf("%.300s was written into", fmt.Sprint(l))
		}
	}
	one := []impl.Sample{{Time: 1}}
	l := []impl.Series{{Labels: labelsOf("_name", "a", "job", "z", "zone", "B"), Samples: one}, {Labels: labelsOf("_name", "b", "job", "z"), Samples: one}, {Labels: labelsOf("_name", "c", "job", "A", "zone", "B"), Samples: one}, {Labels: labelsOf("_name", "d", "job", "zz"), Samples: one}}
	for _, c := range []struct {
		name string
		want []string
	}{{"job", []string{"A", "z", "zz"}}, {"zone", []string{"B"}}, {"_name", []string{"a", "b", "c", "d"}}, {"none", nil}} {
		if got := impl.ValuesOf(l, c.name); !slices.Equal(got, c.want) {
			t.Errorf("%s: %v", c.name, got)
		}
	}
}

// Answers are new memory: what is written into one shows in no other, and in no argument.
func TestAnswersOfHeadsAreNew(t *testing.T) {
	r := rand.New(rand.NewSource(80))
	for range 50 {
		h, puts := fewHead(r), fewPuts(r, 10)
		first, _ := impl.PutAll(h, puts)
		want, _ := putAllModel(h, puts)
		all := [][]impl.Series{impl.SelectHead(first, nil, 0, maxTime), impl.MergeSeries(first.Series, h.Series), impl.MergeSeries(nil, first.Series)}
		second, _ := impl.PutAll(first, nil)
		for _, l := range append(all, second.Series) {
			for _, s := range l[:cap(l)] {
				scribble(s.Labels[:cap(s.Labels)])
				for i := range s.Samples[:cap(s.Samples)] {
					s.Samples[:cap(s.Samples)][i] = impl.Sample{Time: -7}
				}
			}
		}
		if !same(first, want) {
			t.Fatalf("%v became %v", want, first)
		}
	}
}
