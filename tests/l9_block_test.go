package tests

import (
	"bytes"
	"fmt"
	"math"
	"math/rand"
	"slices"
	"sort"
	"strconv"
	"strings"
	"testing"

	"loop.example/g00039/impl"
)

const maxBlock = 400000

func hasSeries(l []impl.Series, labels []impl.Label) bool {
	return slices.ContainsFunc(l, func(s impl.Series) bool { return slices.Equal(s.Labels, labels) })
}

func goodBlockModel(b impl.Block) bool {
	if b.From < 0 || b.From > maxTime || b.To <= b.From || b.To > maxTime+1 || b.Level < 1 || b.Level > 9 || !goodSeriesModel(b.Series) || len(b.Stones) > 100 {
		return false
	}
	for _, s := range b.Series {
		for _, x := range s.Samples {
			if x.Time < b.From || x.Time > b.To-1 {
				return false
			}
		}
	}
	for i, s := range b.Stones {
		if !hasSeries(b.Series, s.Labels) || s.From < b.From || s.To > b.To-1 || s.From > s.To {
			return false
		}
		if i == 0 {
			continue
		}
		last := b.Stones[i-1]
		switch compareModel(last.Labels, s.Labels) {
		case 1:
			return false
		case 0:
			if s.From-last.To < 2 {
				return false
			}
		}
	}
	return true
}

func postingsModel(b impl.Block, name string, value string) []int {
	var out []int
	if !goodBlockModel(b) {
		return nil
	}
	for i, s := range b.Series {
		at := slices.IndexFunc(s.Labels, func(x impl.Label) bool { return x.Name == name })
		if at < 0 && value == "" || at >= 0 && s.Labels[at].Value == value {
			out = append(out, i)
		}
	}
	return out
}

func fitsAllModel(m []impl.Matcher, l []impl.Label) bool {
	return !slices.ContainsFunc(m, func(x impl.Matcher) bool { return !fitsModel(x, l) })
}

func lookUpModel(b impl.Block, m []impl.Matcher) []int {
	var out []int
	if !goodBlockModel(b) || !goodMatchersModel(m) {
		return nil
	}
	for i, s := range b.Series {
		if fitsAllModel(m, s.Labels) {
			out = append(out, i)
		}
	}
	return out
}

// stoneCovers says whether one of the stones is of that series and has that time.
func stoneCovers(stones []impl.Stone, labels []impl.Label, time int) bool {
	return slices.ContainsFunc(stones, func(s impl.Stone) bool {
		return slices.Equal(s.Labels, labels) && s.From <= time && time <= s.To
	})
}

func selectBlockModel(b impl.Block, m []impl.Matcher, from int, to int) []impl.Series {
	if !goodBlockModel(b) || !goodMatchersModel(m) {
		return nil
	}
	var out []impl.Series
	for _, s := range selectModel(b.Series, m, from, to) {
		left := slices.DeleteFunc(slices.Clone(s.Samples), func(x impl.Sample) bool { return stoneCovers(b.Stones, s.Labels, x.Time) })
		if len(left) > 0 {
			out = append(out, impl.Series{Labels: s.Labels, Samples: left})
		}
	}
	return out
}

// runsModel tells the stones of one series as runs of times that one of them covers: times change only where one begins or has ended.
func runsModel(stones []impl.Stone) []impl.Stone {
	var edges []int
	for _, s := range stones {
		edges = append(edges, s.From, s.To+1)
	}
	sort.Ints(edges)
	edges = slices.Compact(edges)
	var out []impl.Stone
	open := false
	for _, at := range edges {
		now := stoneCovers(stones, stones[0].Labels, at)
		if now && !open {
			out = append(out, impl.Stone{Labels: stones[0].Labels, From: at})
		}
		if !now && open {
			out[len(out)-1].To = at - 1
		}
		open = now
	}
	return out
}

func deleteModel(b impl.Block, m []impl.Matcher, from int, to int) impl.Block {
	if !goodBlockModel(b) || !goodMatchersModel(m) {
		return impl.Block{}
	}
	var stones []impl.Stone
	for _, s := range b.Series {
		own := slices.DeleteFunc(slices.Clone(b.Stones), func(x impl.Stone) bool { return !slices.Equal(x.Labels, s.Labels) })
		first, last := max(from, b.From), min(to, b.To-1)
		if fitsAllModel(m, s.Labels) && first <= last {
			own = append(own, impl.Stone{Labels: s.Labels, From: first, To: last})
		}
		if len(own) > 0 {
			stones = append(stones, runsModel(own)...)
		}
	}
	if len(stones) > 100 {
		return impl.Block{}
	}
	b.Stones = stones
	return b
}

// chunkBytes are those of a chunk in a block.
func chunkBytes(l ...impl.Sample) []byte {
	b := textBits(chunkModel(l))
	return append(varBytes(b.Size), b.Data...)
}

// blockBytes puts parts together as the bytes of a block.
func blockBytes(parts ...[]byte) []byte {
	return summed(slices.Concat([]byte("WTB1"), slices.Concat(parts...)))
}

func blockWords(l []impl.Series) []string {
	known := map[string]bool{}
	var words []string
	for _, s := range l {
		for _, x := range s.Labels {
			for _, w := range []string{x.Name, x.Value} {
				if !known[w] {
					words = append(words, w)
				}
				known[w] = true
			}
		}
	}
	sort.Strings(words)
	return words
}

// writeBlock tells the bytes of a good block, however many there are.
func writeBlock(b impl.Block) []byte {
	words := blockWords(b.Series)
	out := numbers(b.From, b.To, b.Level, len(words))
	for _, w := range words {
		out = append(out, textBytes(w)...)
	}
	out = append(out, numbers(len(b.Series))...)
	for _, s := range b.Series {
		out = append(out, numbers(len(s.Labels))...)
		for _, x := range s.Labels {
			out = append(out, numbers(sort.SearchStrings(words, x.Name), sort.SearchStrings(words, x.Value))...)
		}
		var chunks [][]byte
		for i := 0; i < len(s.Samples); i += 120 {
			chunks = append(chunks, chunkBytes(s.Samples[i:min(i+120, len(s.Samples))]...))
		}
		out = slices.Concat(out, numbers(len(chunks)), slices.Concat(chunks...))
	}
	out = append(out, numbers(len(b.Stones))...)
	for _, s := range b.Stones {
		at := slices.IndexFunc(b.Series, func(x impl.Series) bool { return slices.Equal(x.Labels, s.Labels) })
		out = append(out, numbers(at, s.From, s.To)...)
	}
	return blockBytes(out)
}

func packBlockModel(b impl.Block) []byte {
	if !goodBlockModel(b) {
		return nil
	}
	return upTo(maxBlock, writeBlock(b))
}

// cutChunk takes a chunk off the front of bytes.
func cutChunk(data *[]byte, ok *bool) []impl.Sample {
	size := cutVar(data, ok)
	if size < 0 || size > 8*len(*data) {
		*ok = false
		return nil
	}
	n := (size + 7) / 8
	samples, is := readChunkModel(textOf(impl.Bits{Data: (*data)[:n], Size: size}))
	*data = (*data)[n:]
	*ok = *ok && is
	return samples
}

// looseBlock reads a block as far as that goes; whether it is good, and written so, is not asked.
func looseBlock(data []byte) (impl.Block, bool) {
	ok := true
	b := impl.Block{From: cutVar(&data, &ok)}
	b.To = cutVar(&data, &ok)
	b.Level = cutVar(&data, &ok)
	var words []string
	for n := cutVar(&data, &ok); ok && len(words) < n; {
		words = append(words, cutString(&data, &ok))
	}
	word := func() string {
		n := cutVar(&data, &ok)
		if n < 0 || n >= len(words) {
			ok = false
			return ""
		}
		return words[n]
	}
	for n := cutVar(&data, &ok); ok && len(b.Series) < n; {
		var s impl.Series
		for n := cutVar(&data, &ok); ok && len(s.Labels) < n; {
			name := word()
			s.Labels = append(s.Labels, impl.Label{Name: name, Value: word()})
		}
		for n := cutVar(&data, &ok); ok && n > 0; n-- {
			s.Samples = append(s.Samples, cutChunk(&data, &ok)...)
		}
		b.Series = append(b.Series, s)
	}
	for n := cutVar(&data, &ok); ok && len(b.Stones) < n; {
		at := cutVar(&data, &ok)
		if at < 0 || at >= len(b.Series) {
			return b, false
		}
		from := cutVar(&data, &ok)
		b.Stones = append(b.Stones, impl.Stone{Labels: b.Series[at].Labels, From: from, To: cutVar(&data, &ok)})
	}
	return b, ok
}

func readBlockModel(data []byte) (impl.Block, int) {
	switch {
	case len(data) < 8 || len(data) > maxBlock:
		return impl.Block{}, 1
	case !bytes.HasPrefix(data, []byte("WTB1")):
		return impl.Block{}, 2
	case !bytes.Equal(summed(data[:len(data)-4]), data):
		return impl.Block{}, 3
	}
	b, ok := looseBlock(data[4 : len(data)-4])
	if !ok || !bytes.Equal(packBlockModel(b), data) {
		return impl.Block{}, 4
	}
	return b, 0
}

func checkGoodBlock(t *testing.T, b impl.Block) bool {
	t.Helper()
	arg, kept := guarded(b)
	got := impl.GoodBlock(arg)
	if got != goodBlockModel(b) || !kept() {
		t.Fatalf("GoodBlock of %.500s: %v", fmt.Sprint(b), got)
	}
	return got
}

func checkPostings(t *testing.T, b impl.Block, name string, value string) []int {
	t.Helper()
	arg, kept := guarded(b)
	got := impl.Postings(arg, name, value)
	if want := postingsModel(b, name, value); !slices.Equal(got, want) || !kept() {
		t.Fatalf("Postings of %.500s, %q, %q: %v, not %v", fmt.Sprint(b), name, value, got, want)
	}
	return got
}

func checkLookUp(t *testing.T, b impl.Block, m []impl.Matcher) []int {
	t.Helper()
	arg, kept := guarded(b)
	list, listKept := guarded(m)
	got := impl.LookUp(arg, list)
	if want := lookUpModel(b, m); !slices.Equal(got, want) || !kept() || !listKept() {
		t.Fatalf("LookUp of %.500s, %v: %v, not %v", fmt.Sprint(b), m, got, want)
	}
	return got
}

func checkSelectBlock(t *testing.T, b impl.Block, m []impl.Matcher, from int, to int) []impl.Series {
	t.Helper()
	arg, kept := guarded(b)
	list, listKept := guarded(m)
	got := impl.SelectBlock(arg, list, from, to)
	if want := selectBlockModel(b, m, from, to); !same(got, want) {
		t.Fatalf("SelectBlock of %.500s, %v, %d, %d:\n%.500s\nnot %.500s", fmt.Sprint(b), m, from, to, fmt.Sprint(got), fmt.Sprint(want))
	}
	if !kept() || !listKept() {
		t.Fatalf("SelectBlock wrote into %.500s or %v", fmt.Sprint(b), m)
	}
	checkOwn(t, got, arg, list)
	return got
}

// checkDelete holds DeleteIn against the model, and sees that done once more it changes nothing.
func checkDelete(t *testing.T, b impl.Block, m []impl.Matcher, from int, to int) impl.Block {
	t.Helper()
	arg, kept := guarded(b)
	list, listKept := guarded(m)
	got := impl.DeleteIn(arg, list, from, to)
	if want := deleteModel(b, m, from, to); !same(got, want) {
		t.Fatalf("DeleteIn of %.500s, %v, %d, %d:\n%.500s\nnot %.500s", fmt.Sprint(b), m, from, to, fmt.Sprint(got), fmt.Sprint(want))
	}
	if !kept() || !listKept() {
		t.Fatalf("DeleteIn wrote into %.500s or %v", fmt.Sprint(b), m)
	}
	checkOwn(t, got, arg, list)
	if again := impl.DeleteIn(got, m, from, to); !same(again, got) {
		t.Fatalf("DeleteIn of %.500s, %v, %d, %d once more: %.500s", fmt.Sprint(b), m, from, to, fmt.Sprint(again))
	}
	return got
}

// checkPackBlock holds PackBlock against the model, and sees that the block is read back.
func checkPackBlock(t *testing.T, b impl.Block) []byte {
	t.Helper()
	arg, kept := guarded(b)
	got := impl.PackBlock(arg)
	if want := packBlockModel(b); !bytes.Equal(got, want) || !kept() {
		t.Fatalf("PackBlock of %.500s:\n%.500s\nnot %.500s", fmt.Sprint(b), fmt.Sprint(got), fmt.Sprint(want))
	}
	checkOwn(t, got, arg)
	if len(got) > 0 {
		if back, code := impl.ReadBlock(got); code != 0 || !same(back, b) {
			t.Fatalf("%.500s\nis read back as %d, %.500s", fmt.Sprint(b), code, fmt.Sprint(back))
		}
	}
	return got
}

func checkReadBlock(t *testing.T, data []byte) (impl.Block, int) {
	t.Helper()
	arg, kept := guarded(data)
	got, code := impl.ReadBlock(arg)
	want, wantCode := readBlockModel(data)
	if code != wantCode || !same(got, want) || !kept() {
		t.Fatalf("ReadBlock of %.500s:\n%d, %.500s\nnot %d, %.500s", fmt.Sprint(data), code, fmt.Sprint(got), wantCode, fmt.Sprint(want))
	}
	checkOwn(t, got, arg)
	return got, code
}

// blockLabels are of so few series that matchers meet them.
func blockLabels(r *rand.Rand) []impl.Label {
	l := labelsOf("_name", []string{"up", "load", "x"}[r.Intn(3)])
	for _, name := range []string{"a", "a1", "job"} {
		if r.Intn(2) == 0 {
			l = append(l, impl.Label{Name: name, Value: []string{"x", "xa", "up", "a"}[r.Intn(4)]})
		}
	}
	return l
}

// fewBlock is a small block; some of its samples are deleted already.
func fewBlock(r *rand.Rand) impl.Block {
	b := impl.Block{From: []int{0, 1, 7, 50, maxTime - 40}[r.Intn(5)], Level: 1 + r.Intn(9)}
	b.To = b.From + 1 + r.Intn(40)
	labels, values := map[string][]impl.Label{}, map[string]map[int]int{}
	for range r.Intn(7) {
		l := blockLabels(r)
		text := labelsTextModel(l)
		labels[text], values[text] = l, map[int]int{}
		for range 1 + r.Intn(12) {
			values[text][b.From+r.Intn(b.To-b.From)] = edgeValue(r)
		}
	}
	b.Series = seriesOf(labels, values)
	for range r.Intn(5) {
		m, from, to := blockMatchers(r), b.From+r.Intn(45)-2, b.From+r.Intn(45)-2
		if r.Intn(2) == 0 {
			to = from + r.Intn(3)
		}
		b = deleteModel(b, m, from, to)
	}
	return b
}

// blockMatchers are those that some of the series of a small block fit.
func blockMatchers(r *rand.Rand) []impl.Matcher {
	var m []impl.Matcher
	for range r.Intn(3) {
		m = append(m, impl.Matcher{Name: []string{"_name", "a", "a1", "job", "none"}[r.Intn(5)], Op: 1 + r.Intn(4), Value: []string{"", "x", "xa", "up", "u*|x", "*a", "?*"}[r.Intn(7)]})
	}
	return m
}

// blockTimes are times at and beside the edges of a block and of its stones.
func blockTimes(b impl.Block) []int {
	out := []int{math.MinInt, math.MaxInt}
	add := func(at int) { out = append(out, at-1, at, at+1) }
	add(b.From)
	add(b.To)
	for _, s := range b.Stones {
		add(s.From)
		add(s.To)
	}
	return out
}

// Promise 9: a block is read back from its bytes.
func TestBlocksAreReadBack(t *testing.T) {
	r := rand.New(rand.NewSource(91))
	stones := 0
	for range 1500 {
		b := fewBlock(r)
		if !checkGoodBlock(t, b) {
			t.Fatalf("%v", b)
		}
		data := checkPackBlock(t, b)
		if back, code := checkReadBlock(t, data); code != 0 || !same(back, b) {
			t.Fatalf("%v: %d, %v", b, code, back)
		}
		stones += len(b.Stones)
	}
	if stones < 1000 {
		t.Errorf("just %d stones", stones)
	}
	for range 30 {
		b := impl.Block{To: maxTime + 1, Level: 1 + r.Intn(9)}
		for i := range 1 + r.Intn(4) {
			b.Series = append(b.Series, series("s"+strconv.Itoa(i), randomSamples(r, 1+r.Intn(300))...))
		}
		checkReadBlock(t, checkPackBlock(t, b))
	}
}

// Promise 9: with any one bit turned a block is not read.
func TestBlocksWithABitTurned(t *testing.T) {
	r := rand.New(rand.NewSource(92))
	for range 25 {
		data := checkPackBlock(t, fewBlock(r))
		for i := range 8 * len(data) {
			turned := slices.Clone(data)
			turned[i/8] ^= 1 << (i % 8)
			want := 3
			if i < 32 {
				want = 2
			}
			if b, code := checkReadBlock(t, turned); code != want || !same(b, impl.Block{}) {
				t.Fatalf("%v with bit %d turned: %d, %v", data, i, code, b)
			}
		}
		for n := range len(data) {
			if b, code := checkReadBlock(t, data[:n]); code == 0 || !same(b, impl.Block{}) {
				t.Fatalf("%v cut at %d: %d, %v", data, n, code, b)
			}
		}
	}
}

// valuePostings are the postings of a matcher: those of each value under its name that it takes, joined; it takes the empty text where there is none.
func valuePostings(b impl.Block, x impl.Matcher) []int {
	var out []int
	values := append(impl.ValuesOf(b.Series, x.Name), "")
	for _, v := range values {
		takes := v == x.Value
		if x.Op > 2 {
			takes = impl.PatternFits(x.Value, v)
		}
		if takes == (x.Op%2 == 1) {
			out = impl.PostOr(out, impl.Postings(b, x.Name, v))
		}
	}
	return out
}

// Promise 9: postings tell what matchers do.
func TestPostingsTellWhatMatchersDo(t *testing.T) {
	r := rand.New(rand.NewSource(93))
	some := 0
	for range 4000 {
		b, m := fewBlock(r), blockMatchers(r)
		if r.Intn(4) == 0 {
			m = append(m, randomMatchers(r, 3)...)
		}
		got := checkLookUp(t, b, m)
		want := make([]int, len(b.Series))
		for i := range want {
			want[i] = i
		}
		for _, x := range m {
			want = impl.PostAnd(want, valuePostings(b, x))
		}
		if !slices.Equal(got, want) {
			t.Fatalf("%v, %v: %v, not %v", b, m, got, want)
		}
		if n := len(got); n > 0 && n < len(b.Series) {
			some++
		}
	}
	if some < 300 {
		t.Errorf("just %d that tell some", some)
	}
}

// Promise 9: what is deleted is gone, and nothing else.
func TestWhatIsDeletedIsGone(t *testing.T) {
	r := rand.New(rand.NewSource(94))
	gone, stayed := 0, 0
	for range 2500 {
		b, m := fewBlock(r), blockMatchers(r)
		from, to := b.From+r.Intn(45)-2, b.From+r.Intn(45)-2
		after := checkDelete(t, b, m, from, to)
		var want []impl.Series
		for _, s := range checkSelectBlock(t, b, nil, math.MinInt, math.MaxInt) {
			var left []impl.Sample
			for _, x := range s.Samples {
				if impl.Fits(m, s.Labels) && x.Time >= from && x.Time <= to {
					gone++
					continue
				}
				left = append(left, x)
				stayed++
			}
			if len(left) > 0 {
				want = append(want, impl.Series{Labels: s.Labels, Samples: left})
			}
		}
		if got := checkSelectBlock(t, after, nil, math.MinInt, math.MaxInt); !same(got, want) {
			t.Fatalf("%v less %v in %d..%d: %v, not %v", b, m, from, to, got, want)
		}
		if !checkGoodBlock(t, after) || !same(after.Series, b.Series) || after.From != b.From || after.To != b.To || after.Level != b.Level {
			t.Fatalf("%v became %v", b, after)
		}
		checkReadBlock(t, checkPackBlock(t, after))
	}
	if gone < 1000 || stayed < 1000 {
		t.Errorf("%d gone, %d stayed", gone, stayed)
	}
}

// stonedBlock is a block in 0..99 of the series a, b and c, with stones of b alone.
func stonedBlock(spans ...[2]int) impl.Block {
	b := impl.Block{To: 100, Level: 1}
	for _, name := range []string{"a", "b", "c"} {
		b.Series = append(b.Series, series(name, steadySamples(100, 0, 1, 7)...))
	}
	for _, s := range spans {
		b.Stones = append(b.Stones, impl.Stone{Labels: labelsOf("_name", "b"), From: s[0], To: s[1]})
	}
	return b
}

// spansOf tells the stones of one series.
func spansOf(b impl.Block, name string) [][2]int {
	var out [][2]int
	for _, s := range b.Stones {
		if s.Labels[0].Value == name {
			out = append(out, [2]int{s.From, s.To})
		}
	}
	return out
}

func TestStonesThatLieSideBySide(t *testing.T) {
	named := func(name string) []impl.Matcher {
		return []impl.Matcher{{Name: "_name", Op: impl.MatchSame, Value: name}}
	}
	for _, c := range []struct {
		was      [][2]int
		from, to int
		want     [][2]int
	}{
		{nil, 10, 20, [][2]int{{10, 20}}},
		{nil, 10, 10, [][2]int{{10, 10}}},
		// At the end of what stands ahead, one behind it, and with a time between.
		{[][2]int{{10, 20}}, 20, 30, [][2]int{{10, 30}}},
		{[][2]int{{10, 20}}, 21, 30, [][2]int{{10, 30}}},
		{[][2]int{{10, 20}}, 22, 30, [][2]int{{10, 20}, {22, 30}}},
		{[][2]int{{10, 20}}, 21, 21, [][2]int{{10, 21}}},
		{[][2]int{{10, 20}}, 22, 22, [][2]int{{10, 20}, {22, 22}}},
		{[][2]int{{10, 10}}, 11, 11, [][2]int{{10, 11}}},
		{[][2]int{{10, 10}}, 12, 12, [][2]int{{10, 10}, {12, 12}}},
		// The same on the other side.
		{[][2]int{{10, 20}}, 5, 10, [][2]int{{5, 20}}},
		{[][2]int{{10, 20}}, 5, 9, [][2]int{{5, 20}}},
		{[][2]int{{10, 20}}, 5, 8, [][2]int{{5, 8}, {10, 20}}},
		{[][2]int{{10, 20}}, 9, 9, [][2]int{{9, 20}}},
		{[][2]int{{10, 20}}, 8, 8, [][2]int{{8, 8}, {10, 20}}},
		// In it, around it, over one of its ends.
		{[][2]int{{10, 20}}, 10, 20, [][2]int{{10, 20}}},
		{[][2]int{{10, 20}}, 12, 18, [][2]int{{10, 20}}},
		{[][2]int{{10, 20}}, 5, 30, [][2]int{{5, 30}}},
		{[][2]int{{10, 20}}, 15, 30, [][2]int{{10, 30}}},
		{[][2]int{{10, 20}}, 5, 15, [][2]int{{5, 20}}},
		// Between two: it makes one of them, lies beside one, or beside none.
		{[][2]int{{10, 20}, {22, 30}}, 21, 21, [][2]int{{10, 30}}},
		{[][2]int{{10, 20}, {23, 30}}, 21, 21, [][2]int{{10, 21}, {23, 30}}},
		{[][2]int{{10, 20}, {23, 30}}, 22, 22, [][2]int{{10, 20}, {22, 30}}},
		{[][2]int{{10, 20}, {23, 30}}, 21, 22, [][2]int{{10, 30}}},
		{[][2]int{{10, 20}, {24, 30}}, 22, 22, [][2]int{{10, 20}, {22, 22}, {24, 30}}},
		{[][2]int{{10, 20}, {40, 50}}, 20, 40, [][2]int{{10, 50}}},
		{[][2]int{{10, 20}, {40, 50}}, 22, 38, [][2]int{{10, 20}, {22, 38}, {40, 50}}},
		{[][2]int{{10, 20}, {40, 50}}, 45, 60, [][2]int{{10, 20}, {40, 60}}},
		// Many of them at once.
		{[][2]int{{2, 4}, {10, 10}, {12, 14}, {20, 29}, {40, 41}}, 10, 20, [][2]int{{2, 4}, {10, 29}, {40, 41}}},
		{[][2]int{{2, 4}, {10, 10}, {12, 14}, {20, 29}, {40, 41}}, 5, 39, [][2]int{{2, 41}}},
		{[][2]int{{2, 4}, {10, 10}, {12, 14}, {20, 29}, {40, 41}}, 6, 38, [][2]int{{2, 4}, {6, 38}, {40, 41}}},
		{[][2]int{{2, 4}, {10, 10}, {12, 14}, {20, 29}, {40, 41}}, 0, 99, [][2]int{{0, 99}}},
		{[][2]int{{2, 4}, {10, 10}, {12, 14}, {20, 29}, {40, 41}}, -5, 500, [][2]int{{0, 99}}},
		{[][2]int{{2, 4}, {10, 10}, {12, 14}, {20, 29}, {40, 41}}, 15, 19, [][2]int{{2, 4}, {10, 10}, {12, 29}, {40, 41}}},
		{[][2]int{{2, 4}, {10, 10}, {12, 14}, {20, 29}, {40, 41}}, 11, 19, [][2]int{{2, 4}, {10, 29}, {40, 41}}},
		// At the block's edges.
		{[][2]int{{0, 3}, {90, 99}}, -10, 0, [][2]int{{0, 3}, {90, 99}}},
		{[][2]int{{1, 3}, {90, 98}}, -10, 0, [][2]int{{0, 3}, {90, 98}}},
		{[][2]int{{1, 3}, {90, 98}}, 99, 99, [][2]int{{1, 3}, {90, 99}}},
		{[][2]int{{1, 3}, {90, 98}}, 99, 100, [][2]int{{1, 3}, {90, 99}}},
		{[][2]int{{1, 3}, {90, 98}}, 100, 100, [][2]int{{1, 3}, {90, 98}}},
		{[][2]int{{1, 3}, {90, 98}}, -1, -1, [][2]int{{1, 3}, {90, 98}}},
	} {
		got := checkDelete(t, stonedBlock(c.was...), named("b"), c.from, c.to)
		if !slices.Equal(spansOf(got, "b"), c.want) || len(got.Stones) != len(c.want) {
			t.Errorf("%v and %d..%d: %v", c.was, c.from, c.to, got.Stones)
		}
		// The stones of other series have no part in it.
		got = checkDelete(t, checkDelete(t, stonedBlock(c.was...), named("a"), c.from, c.to), named("c"), c.from, c.to)
		if a, b := spansOf(got, "a"), spansOf(got, "b"); !slices.Equal(b, c.was) || len(a) > 1 || !slices.Equal(a, spansOf(got, "c")) {
			t.Errorf("%v beside %d..%d: %v", c.was, c.from, c.to, got.Stones)
		}
		checkReadBlock(t, checkPackBlock(t, got))
	}
	// Stones of two series never become one, whichever way they lie.
	for _, at := range []int{19, 20, 21, 22} {
		got := checkDelete(t, stonedBlock([2]int{10, 20}), []impl.Matcher{{Name: "_name", Op: impl.MatchNot, Value: "b"}}, at, 30)
		if len(got.Stones) != 3 || !slices.Equal(spansOf(got, "b"), [][2]int{{10, 20}}) {
			t.Errorf("%d..30: %v", at, got.Stones)
		}
	}
}

// badBlocks are blocks that are not good, each in one way.
func badBlocks() []impl.Block {
	one := []impl.Series{series("b", impl.Sample{Time: 10}, impl.Sample{Time: 19})}
	two := []impl.Series{series("a", impl.Sample{Time: 12}), one[0], series("c", impl.Sample{Time: 15})}
	stone := func(name string, from int, to int) impl.Stone {
		return impl.Stone{Labels: labelsOf("_name", name), From: from, To: to}
	}
	out := []impl.Block{
		{}, {To: 10}, {Level: 1}, {From: -1, To: 10, Level: 1}, {From: math.MinInt, To: 10, Level: 1}, {From: math.MinInt, To: math.MinInt + 1, Level: 1},
		{From: 10, To: 10, Level: 1}, {From: 10, To: 9, Level: 1}, {From: 10, To: 0, Level: 1}, {From: 10, To: math.MinInt, Level: 1}, {From: math.MaxInt, To: math.MinInt, Level: 1},
		{To: maxTime + 2, Level: 1}, {To: math.MaxInt, Level: 1}, {From: maxTime + 1, To: maxTime + 1, Level: 1}, {From: maxTime + 1, To: maxTime + 2, Level: 1}, {From: math.MaxInt - 1, To: math.MaxInt, Level: 1},
		{To: 10, Level: 0}, {To: 10, Level: -1}, {To: 10, Level: 10}, {To: 10, Level: math.MinInt}, {To: 10, Level: math.MaxInt},
		{From: 11, To: 20, Level: 1, Series: one}, {From: 10, To: 19, Level: 1, Series: one}, {From: 11, To: 19, Level: 1, Series: one}, {From: 20, To: 30, Level: 1, Series: one}, {From: 0, To: 10, Level: 1, Series: one}, {From: 11, To: 20, Level: 1, Series: two}, {From: 10, To: 19, Level: 1, Series: two}, {From: 10, To: 15, Level: 1, Series: []impl.Series{two[0], two[2]}}, {From: 13, To: 20, Level: 1, Series: []impl.Series{two[0], two[2]}},
	}
	for _, l := range badSeries() {
		out = append(out, impl.Block{To: maxTime + 1, Level: 1, Series: l})
	}
	for _, stones := range [][]impl.Stone{
		{{}}, {{From: 12, To: 13}}, {stone("d", 12, 13)}, {stone("", 12, 13)}, {stone("0", 12, 13)}, {stone("aa", 12, 13)}, {{Labels: labelsOf("_name", "b", "job", "x"), From: 12, To: 13}}, {{Labels: labelsOf("_nam", "b"), From: 12, To: 13}}, {{Labels: labelsOf("_name", "b", "_name", "b"), From: 12, To: 13}}, {stone("b", 12, 13), stone("d", 12, 13)}, {{Labels: manyLabels(1 << 10), From: 12, To: 13}},
		{stone("b", 9, 12)}, {stone("b", 9, 9)}, {stone("b", 12, 20)}, {stone("b", 20, 20)}, {stone("b", 13, 12)}, {stone("b", 19, 10)}, {stone("b", math.MinInt, 12)}, {stone("b", 12, math.MaxInt)}, {stone("b", math.MaxInt, math.MinInt)}, {stone("b", math.MinInt, math.MaxInt)}, {stone("a", 10, 19), stone("b", 9, 19)}, {stone("a", 10, 20), stone("b", 10, 19)},
		{stone("b", 12, 13), stone("a", 12, 13)}, {stone("b", 10, 11), stone("a", 16, 17)}, {stone("a", 12, 13), stone("c", 12, 13), stone("b", 12, 13)}, {stone("c", 12, 13), stone("a", 12, 13), stone("b", 12, 13)}, {stone("b", 16, 17), stone("b", 12, 13)}, {stone("a", 12, 13), stone("b", 12, 13), stone("a", 16, 17)},
		{stone("b", 12, 13), stone("b", 12, 13)}, {stone("b", 12, 14), stone("b", 13, 16)}, {stone("b", 12, 14), stone("b", 14, 16)}, {stone("b", 12, 14), stone("b", 15, 16)}, {stone("b", 12, 18), stone("b", 14, 15)}, {stone("b", 12, 12), stone("b", 13, 13)}, {stone("b", 10, 11), stone("b", 13, 14), stone("b", 15, 16)}, {stone("b", 12, 14), stone("b", 12, 16)}, {stone("a", 12, 14), stone("a", 15, 16), stone("b", 18, 19)}, {stone("c", 12, 14), stone("c", 15, 16)},
	} {
		out = append(out, impl.Block{From: 10, To: 20, Level: 1, Series: two, Stones: stones})
	}
	return append(out, manyStones(101), manyStones(1<<10), impl.Block{To: 10, Level: 1, Stones: []impl.Stone{{}}}, impl.Block{To: 10, Level: 1, Stones: make([]impl.Stone, 1<<16)})
}

// manyStones is a block with n stones, a time between each two.
func manyStones(n int) impl.Block {
	b := impl.Block{To: 10000, Level: 9, Series: []impl.Series{series("a", steadySamples(2000, 0, 5, 3)...)}}
	for i := range n {
		b.Stones = append(b.Stones, impl.Stone{Labels: labelsOf("_name", "a"), From: 4 * i, To: 4*i + 2})
	}
	return b
}

// goodBlocks are blocks at the edges of what is good.
func goodBlocks() []impl.Block {
	two := []impl.Series{series("a", impl.Sample{Time: 12}), series("b", impl.Sample{Time: 10}, impl.Sample{Time: 19}), series("c", impl.Sample{Time: 15})}
	stone := func(name string, from int, to int) impl.Stone {
		return impl.Stone{Labels: labelsOf("_name", name), From: from, To: to}
	}
	out := []impl.Block{
		{To: 1, Level: 1}, {To: 1, Level: 9}, {To: 10, Level: 5}, {To: maxTime + 1, Level: 1}, {From: maxTime, To: maxTime + 1, Level: 1}, {From: maxTime - 1, To: maxTime, Level: 9}, {From: 10, To: 11, Level: 1},
		{From: 10, To: 20, Level: 1, Series: two}, {From: 9, To: 21, Level: 1, Series: two}, {From: 0, To: maxTime + 1, Level: 9, Series: two}, {From: maxTime, To: maxTime + 1, Level: 1, Series: []impl.Series{series("a", impl.Sample{Time: maxTime, Value: impl.StaleMark})}}, {To: 1, Level: 1, Series: []impl.Series{series("a", impl.Sample{})}},
		{To: 200, Level: 1, Series: manySeries(200)}, manyStones(99), manyStones(100),
	}
	for _, stones := range [][]impl.Stone{
		{stone("b", 10, 10)}, {stone("b", 19, 19)}, {stone("b", 10, 19)}, {stone("a", 10, 19), stone("b", 10, 19), stone("c", 10, 19)}, {stone("a", 13, 14)},
		{stone("b", 12, 14), stone("b", 16, 17)}, {stone("b", 10, 10), stone("b", 12, 12), stone("b", 14, 14), stone("b", 16, 16), stone("b", 18, 18)}, {stone("b", 10, 17), stone("b", 19, 19)}, {stone("a", 12, 14), stone("b", 15, 16)}, {stone("a", 16, 17), stone("b", 12, 13), stone("c", 10, 11)}, {stone("a", 12, 13), stone("a", 15, 19), stone("c", 10, 13)},
	} {
		out = append(out, impl.Block{From: 10, To: 20, Level: 1, Series: two, Stones: stones})
	}
	return out
}

func TestBlocksThatAreGood(t *testing.T) {
	for i, b := range badBlocks() {
		if checkGoodBlock(t, b) {
			t.Errorf("bad block %d: %.300s", i, fmt.Sprint(b))
		}
		if got := checkPackBlock(t, b); len(got) > 0 {
			t.Errorf("bad block %d: %v", i, got)
		}
		if got := checkSelectBlock(t, b, nil, 0, maxTime); len(got) > 0 {
			t.Errorf("bad block %d: %v", i, got)
		}
		if got := checkDelete(t, b, nil, 12, 13); !same(got, impl.Block{}) {
			t.Errorf("bad block %d: %v", i, got)
		}
		if a, b := checkLookUp(t, b, nil), checkPostings(t, b, "none", ""); len(a)+len(b) > 0 {
			t.Errorf("bad block %d: %v, %v", i, a, b)
		}
	}
	for i, b := range goodBlocks() {
		if !checkGoodBlock(t, b) {
			t.Errorf("good block %d: %.300s", i, fmt.Sprint(b))
		}
		if back, code := checkReadBlock(t, checkPackBlock(t, b)); code != 0 || !same(back, b) {
			t.Errorf("good block %d: %d, %.300s", i, code, fmt.Sprint(back))
		}
		checkSelectBlock(t, b, nil, 0, maxTime)
		if got := checkLookUp(t, b, nil); len(got) != len(b.Series) {
			t.Errorf("good block %d: %v", i, got)
		}
	}
	r := rand.New(rand.NewSource(95))
	good := 0
	for range 3000 {
		b := laid(fewBlock(r), 0)
		for range 1 + r.Intn(2) {
			changeBlock(r, &b)
		}
		if checkGoodBlock(t, b) {
			good++
		}
	}
	if good < 500 || good > 2500 {
		t.Errorf("%d good ones", good)
	}
}

// changeBlock changes one thing of a block a little.
func changeBlock(r *rand.Rand, b *impl.Block) {
	little := r.Intn(5) - 2
	if len(b.Stones) > 0 && r.Intn(2) == 0 {
		i, j := r.Intn(len(b.Stones)), r.Intn(len(b.Stones))
		switch r.Intn(5) {
		case 0:
			b.Stones[i].From += little
		case 1:
			b.Stones[i].To += little
		case 2:
			b.Stones[i], b.Stones[j] = b.Stones[j], b.Stones[i]
		case 3:
			b.Stones[i].Labels = b.Series[r.Intn(len(b.Series))].Labels
		default:
			b.Stones[i].Labels = blockLabels(r)
		}
		return
	}
	switch r.Intn(4) {
	case 0:
		b.From += little
	case 1:
		b.To += little
	case 2:
		b.Level += little
	default:
		if len(b.Series) > 0 {
			i := r.Intn(len(b.Series))
			b.Series = slices.Delete(b.Series, i, i+1)
		}
	}
}

func TestPostings(t *testing.T) {
	b := impl.Block{To: 10, Level: 1}
	for _, l := range [][]impl.Label{labelsOf("A", "1", "_name", "up"), labelsOf("_name", "load"), labelsOf("_name", "load", "job", "a"), labelsOf("_name", "up", "job", "a"), labelsOf("_name", "up", "job", "b", "zone", "a")} {
		b.Series = append(b.Series, impl.Series{Labels: l, Samples: []impl.Sample{{Time: 5}}})
	}
	for _, c := range []struct {
		name, value string
		want        []int
	}{
		{"_name", "up", []int{0, 3, 4}}, {"_name", "load", []int{1, 2}}, {"_name", "", nil}, {"_name", "u", nil}, {"_name", "upp", nil}, {"_name", "*", nil}, {"_name", "a", nil},
		{"job", "a", []int{2, 3}}, {"job", "b", []int{4}}, {"job", "c", nil}, {"job", "", []int{0, 1}}, {"zone", "a", []int{4}}, {"zone", "", []int{0, 1, 2, 3}}, {"A", "1", []int{0}}, {"A", "", []int{1, 2, 3, 4}},
		{"none", "", []int{0, 1, 2, 3, 4}}, {"none", "a", nil}, {"", "", []int{0, 1, 2, 3, 4}}, {"", "a", nil}, {"a b", "", []int{0, 1, 2, 3, 4}}, {"1", "a", nil}, {strings.Repeat("n", 41), "", []int{0, 1, 2, 3, 4}}, {"\xff", "", []int{0, 1, 2, 3, 4}}, {"_name", "\xff", nil}, {"_name", strings.Repeat("v", 101), nil}, {"up", "_name", nil}, {"Job", "a", nil},
	} {
		if got := checkPostings(t, b, c.name, c.value); !slices.Equal(got, c.want) {
			t.Errorf("%q, %q: %v", c.name, c.value, got)
		}
	}
	// Stones change nothing of it, not even where they cover a series.
	covered := checkDelete(t, b, nil, 0, 9)
	if got := checkPostings(t, covered, "job", "a"); !slices.Equal(got, []int{2, 3}) {
		t.Errorf("%v", got)
	}
	if got := checkLookUp(t, covered, []impl.Matcher{{Name: "job", Op: impl.MatchNot, Value: ""}}); !slices.Equal(got, []int{2, 3, 4}) {
		t.Errorf("%v", got)
	}
	b.Level = 0
	if a, b := checkPostings(t, b, "_name", "up"), checkPostings(t, b, "none", ""); len(a)+len(b) > 0 {
		t.Errorf("no block: %v, %v", a, b)
	}
	empty := impl.Block{To: 10, Level: 1}
	if a, b := checkPostings(t, empty, "_name", "up"), checkPostings(t, empty, "none", ""); len(a)+len(b) > 0 {
		t.Errorf("no series: %v, %v", a, b)
	}
	many := impl.Block{To: 200, Level: 1, Series: manySeries(200)}
	if got := checkPostings(t, many, "job", ""); len(got) != 200 || got[199] != 199 {
		t.Errorf("%v", got)
	}
	r := rand.New(rand.NewSource(96))
	for range 2000 {
		checkPostings(t, fewBlock(r), []string{"_name", "a", "a1", "job", "none"}[r.Intn(5)], []string{"", "x", "xa", "up", "a"}[r.Intn(5)])
	}
}

func TestLookUpOfMatchers(t *testing.T) {
	r := rand.New(rand.NewSource(97))
	b := fewBlock(r)
	for len(b.Series) < 3 {
		b = fewBlock(r)
	}
	for _, none := range [][]impl.Matcher{nil, {}} {
		if got := checkLookUp(t, b, none); len(got) != len(b.Series) {
			t.Errorf("no matchers: %v", got)
		}
	}
	for i, m := range badMatchers() {
		got := checkLookUp(t, b, m)
		if s, d := checkSelectBlock(t, b, m, 0, maxTime), checkDelete(t, b, m, 0, maxTime); len(got)+len(s) > 0 || !same(d, impl.Block{}) {
			t.Errorf("bad matchers %d: %v, %v, %v", i, got, s, d)
		}
	}
	if got := checkLookUp(t, b, manyMatchers(10)); len(got) > 0 {
		t.Errorf("%v", got)
	}
	same10 := slices.Repeat([]impl.Matcher{{Name: "none", Op: impl.MatchSame}}, 10)
	if got := checkLookUp(t, b, same10); len(got) != len(b.Series) {
		t.Errorf("ten matchers: %v", got)
	}
	if got := checkLookUp(t, b, append(same10, same10[0])); len(got) > 0 {
		t.Errorf("eleven matchers: %v", got)
	}
	for i, s := range b.Series {
		if got := checkLookUp(t, b, exactly(s.Labels)); !slices.Contains(got, i) {
			t.Errorf("series %d: %v", i, got)
		}
	}
}

// checkPosts holds the three ways to put two lists together against plain asking, and tells what they answered.
func checkPosts(t *testing.T, a []int, b []int) [3][]int {
	t.Helper()
	var want [3][]int
	rises := func(l []int) bool {
		return len(l) <= 1000 && sort.IntsAreSorted(l) && len(slices.Compact(slices.Clone(l))) == len(l)
	}
	if rises(a) && rises(b) {
		inA, inB := map[int]bool{}, map[int]bool{}
		for _, x := range a {
			inA[x] = true
		}
		for _, x := range b {
			inB[x] = true
		}
		for x := range inA {
			if inB[x] {
				want[0] = append(want[0], x)
			} else {
				want[2] = append(want[2], x)
				want[1] = append(want[1], x)
			}
		}
		for x := range inB {
			want[1] = append(want[1], x)
		}
	}
	var out [3][]int
	for i, f := range []func(a []int, b []int) []int{impl.PostAnd, impl.PostOr, impl.PostMinus} {
		sort.Ints(want[i])
		argA, keptA := guarded(a)
		argB, keptB := guarded(b)
		out[i] = f(argA, argB)
		if !slices.Equal(out[i], want[i]) || !keptA() || !keptB() {
			t.Fatalf("way %d of %.300s and %.300s: %.300s, not %.300s", i, fmt.Sprint(a), fmt.Sprint(b), fmt.Sprint(out[i]), fmt.Sprint(want[i]))
		}
		checkOwn(t, out[i], argA, argB)
	}
	return out
}

// upFrom are n numbers from first on, so far apart.
func upFrom(n int, first int, apart int) []int {
	out := make([]int, n)
	for i := range out {
		out[i] = first + i*apart
	}
	return out
}

func TestSetsOfPostings(t *testing.T) {
	for _, c := range []struct {
		a, b []int
		want [3][]int
	}{
		{nil, nil, [3][]int{}}, {[]int{}, nil, [3][]int{}},
		{[]int{1, 2}, nil, [3][]int{nil, {1, 2}, {1, 2}}}, {nil, []int{1, 2}, [3][]int{nil, {1, 2}, nil}},
		{[]int{1, 2}, []int{1, 2}, [3][]int{{1, 2}, {1, 2}, nil}},
		{[]int{1, 2}, []int{3, 4}, [3][]int{nil, {1, 2, 3, 4}, {1, 2}}}, {[]int{3, 4}, []int{1, 2}, [3][]int{nil, {1, 2, 3, 4}, {3, 4}}},
		{[]int{1, 3, 5}, []int{2, 3, 4}, [3][]int{{3}, {1, 2, 3, 4, 5}, {1, 5}}}, {[]int{1, 3}, []int{0, 1, 2, 3, 4}, [3][]int{{1, 3}, {0, 1, 2, 3, 4}, nil}}, {[]int{0, 1, 2, 3, 4}, []int{1, 3}, [3][]int{{1, 3}, {0, 1, 2, 3, 4}, {0, 2, 4}}},
		{[]int{-5, 0}, []int{-5, 7}, [3][]int{{-5}, {-5, 0, 7}, {0}}},
		{[]int{math.MinInt, math.MaxInt}, []int{math.MinInt, 0, math.MaxInt}, [3][]int{{math.MinInt, math.MaxInt}, {math.MinInt, 0, math.MaxInt}, nil}},
		// What does not rise, or has one number twice, is no set.
		{[]int{2, 1}, []int{1}, [3][]int{}}, {[]int{1}, []int{2, 1}, [3][]int{}}, {[]int{1, 1}, nil, [3][]int{}}, {nil, []int{1, 1}, [3][]int{}}, {[]int{1, 2, 2}, []int{1}, [3][]int{}}, {[]int{1}, []int{1, 3, 2}, [3][]int{}}, {[]int{1, 1}, []int{2, 2}, [3][]int{}}, {[]int{math.MaxInt, math.MinInt}, []int{5}, [3][]int{}},
	} {
		if got := checkPosts(t, c.a, c.b); !same(got, c.want) {
			t.Errorf("%v, %v: %v", c.a, c.b, got)
		}
	}
	for _, c := range []struct {
		a, b []int
		want [3]int
	}{
		{upFrom(1000, 0, 1), upFrom(1000, 0, 1), [3]int{1000, 1000, 0}}, {upFrom(1000, 0, 1), upFrom(1000, 1000, 1), [3]int{0, 2000, 1000}}, {upFrom(1000, 0, 2), upFrom(1000, 1, 2), [3]int{0, 2000, 1000}}, {upFrom(1000, -500, 1), upFrom(999, 0, 1), [3]int{500, 1499, 500}}, {upFrom(1000, 5, 3), nil, [3]int{0, 1000, 1000}},
		{upFrom(1001, 0, 1), upFrom(1000, 0, 1), [3]int{}}, {upFrom(1000, 0, 1), upFrom(1001, 0, 1), [3]int{}}, {upFrom(1001, 0, 1), nil, [3]int{}}, {nil, upFrom(1001, 0, 1), [3]int{}}, {upFrom(1001, 0, 1), upFrom(1001, 0, 1), [3]int{}}, {upFrom(1<<16, 0, 1), []int{1}, [3]int{}}, {append(upFrom(999, 0, 1), 998), []int{1}, [3]int{}}, {append(upFrom(999, 0, 1), 997), []int{1}, [3]int{}},
	} {
		got := checkPosts(t, c.a, c.b)
		if sizes := [3]int{len(got[0]), len(got[1]), len(got[2])}; sizes != c.want {
			t.Errorf("%d and %d numbers: %v", len(c.a), len(c.b), sizes)
		}
	}
	r := rand.New(rand.NewSource(98))
	list := func() []int {
		var out []int
		at := r.Intn(9) - 4
		for range r.Intn(12) {
			out = append(out, at)
			at += 1 + r.Intn(3)
			if r.Intn(60) == 0 {
				at -= 3
			}
		}
		return out
	}
	for range 5000 {
		checkPosts(t, list(), list())
	}
}

func TestSelectBlock(t *testing.T) {
	b := stonedBlock([2]int{10, 20}, [2]int{30, 30}, [2]int{40, 99})
	times := func(l []impl.Series, name string) []int {
		for _, s := range l {
			if s.Labels[0].Value == name {
				return timesOf(s.Samples)
			}
		}
		return nil
	}
	for _, c := range []struct {
		from, to int
		want     []int
	}{
		{0, 9, upFrom(10, 0, 1)}, {0, 10, upFrom(10, 0, 1)}, {9, 10, []int{9}}, {9, 21, []int{9, 21}}, {8, 22, []int{8, 9, 21, 22}}, {20, 21, []int{21}}, {21, 21, []int{21}}, {9, 9, []int{9}},
		{10, 20, nil}, {10, 10, nil}, {20, 20, nil}, {12, 18, nil}, {29, 31, []int{29, 31}}, {30, 30, nil}, {30, 31, []int{31}}, {29, 30, []int{29}}, {28, 32, []int{28, 29, 31, 32}}, {38, 45, []int{38, 39}}, {40, 99, nil}, {99, 99, nil}, {40, math.MaxInt, nil}, {39, math.MaxInt, []int{39}}, {math.MinInt, 1, []int{0, 1}}, {math.MinInt, 0, []int{0}}, {math.MinInt, -1, nil}, {100, math.MaxInt, nil}, {math.MaxInt, math.MinInt, nil},
		{0, 99, slices.Concat(upFrom(10, 0, 1), upFrom(9, 21, 1), upFrom(9, 31, 1))}, {math.MinInt, math.MaxInt, slices.Concat(upFrom(10, 0, 1), upFrom(9, 21, 1), upFrom(9, 31, 1))},
		{21, 20, nil}, {22, 8, nil}, {31, 29, nil}, {9, 8, nil}, {5, 4, nil}, {1000, 2000, nil}, {-9, -1, nil},
	} {
		all := checkSelectBlock(t, b, nil, c.from, c.to)
		if got := times(all, "b"); !slices.Equal(got, c.want) {
			t.Errorf("%d..%d: %v, not %v", c.from, c.to, got, c.want)
		}
		full := upFrom(max(0, min(c.to, 99)-max(c.from, 0)+1), max(c.from, 0), 1)
		if c.from > c.to {
			full = nil
		}
		if !slices.Equal(times(all, "a"), full) || !slices.Equal(times(all, "c"), full) {
			t.Errorf("%d..%d: %v", c.from, c.to, times(all, "a"))
		}
	}
	// A series all of whose samples are covered is told no more.
	gone := checkDelete(t, b, []impl.Matcher{{Name: "_name", Op: impl.MatchLike, Value: "a|b"}}, 0, 99)
	if got := checkSelectBlock(t, gone, nil, math.MinInt, math.MaxInt); len(got) != 1 || got[0].Labels[0].Value != "c" {
		t.Errorf("%.300s", fmt.Sprint(got))
	}
	if got := checkSelectBlock(t, b, []impl.Matcher{{Name: "_name", Op: impl.MatchSame, Value: "d"}}, 0, 99); len(got) > 0 {
		t.Errorf("%.300s", fmt.Sprint(got))
	}
	r := rand.New(rand.NewSource(99))
	some := 0
	for range 2000 {
		b := fewBlock(r)
		times := blockTimes(b)
		from, to := times[r.Intn(len(times))], times[r.Intn(len(times))]
		some += min(1, len(checkSelectBlock(t, b, blockMatchers(r), from, to)))
	}
	if some < 300 {
		t.Errorf("just %d that tell some", some)
	}
}

func TestDeleteInAtTheEdges(t *testing.T) {
	b := impl.Block{From: 10, To: 20, Level: 2, Series: []impl.Series{series("a", impl.Sample{Time: 10}, impl.Sample{Time: 19}), series("b", impl.Sample{Time: 15})}}
	for _, c := range []struct {
		from, to int
		want     [2]int
		some     bool
	}{
		{0, 9, [2]int{}, false}, {math.MinInt, 9, [2]int{}, false}, {20, 30, [2]int{}, false}, {20, math.MaxInt, [2]int{}, false}, {13, 12, [2]int{}, false}, {math.MaxInt, math.MinInt, [2]int{}, false}, {19, 10, [2]int{}, false}, {20, 9, [2]int{}, false}, {30, 0, [2]int{}, false},
		{0, 10, [2]int{10, 10}, true}, {10, 10, [2]int{10, 10}, true}, {19, 19, [2]int{19, 19}, true}, {19, 20, [2]int{19, 19}, true}, {19, math.MaxInt, [2]int{19, 19}, true}, {math.MinInt, 10, [2]int{10, 10}, true}, {math.MinInt, math.MaxInt, [2]int{10, 19}, true}, {9, 20, [2]int{10, 19}, true}, {10, 19, [2]int{10, 19}, true}, {11, 18, [2]int{11, 18}, true}, {12, 12, [2]int{12, 12}, true}, {0, maxTime, [2]int{10, 19}, true},
	} {
		got := checkDelete(t, b, nil, c.from, c.to)
		if !c.some {
			if !same(got, b) {
				t.Errorf("%d..%d: %v", c.from, c.to, got)
			}
			continue
		}
		if len(got.Stones) != 2 || spansOf(got, "a")[0] != c.want || spansOf(got, "b")[0] != c.want {
			t.Errorf("%d..%d: %v", c.from, c.to, got.Stones)
		}
	}
	for _, m := range [][]impl.Matcher{{{Name: "_name", Op: impl.MatchSame, Value: "c"}}, {{Name: "job", Op: impl.MatchNot}}, {{Name: "_name", Op: impl.MatchSame, Value: "a"}, {Name: "_name", Op: impl.MatchSame, Value: "b"}}} {
		if got := checkDelete(t, b, m, 0, maxTime); !same(got, b) {
			t.Errorf("%v: %v", m, got)
		}
	}
	if got := checkDelete(t, impl.Block{To: 10, Level: 1}, nil, 0, 9); !same(got, impl.Block{To: 10, Level: 1}) {
		t.Errorf("no series: %v", got)
	}
	last := impl.Block{From: maxTime, To: maxTime + 1, Level: 1, Series: []impl.Series{series("a", impl.Sample{Time: maxTime})}}
	if got := checkDelete(t, last, nil, maxTime, math.MaxInt); len(got.Stones) != 1 || got.Stones[0].To != maxTime {
		t.Errorf("the last time: %v", got)
	}
	r := rand.New(rand.NewSource(100))
	for range 2000 {
		b := fewBlock(r)
		times := blockTimes(b)
		checkDelete(t, b, blockMatchers(r), times[r.Intn(len(times))], times[r.Intn(len(times))])
	}
}

func TestManyStones(t *testing.T) {
	full, short := manyStones(100), manyStones(99)
	for _, c := range []struct {
		b        impl.Block
		from, to int
		want     int
	}{
		{short, 9000, 9000, 100}, {short, 396, 396, 100}, {full, 9000, 9000, 0}, {full, 400, 400, 0}, {full, 9999, 9999, 0},
		{full, 399, 399, 100}, {full, 3, 3, 99}, {full, 3, 7, 98}, {full, 0, 9999, 1}, {full, 398, 9999, 100}, {full, 400, 399, 100}, {full, 10000, 10001, 100}, {full, 100, 100, 100},
	} {
		if got := checkDelete(t, c.b, nil, c.from, c.to); len(got.Stones) != c.want || c.want == 0 && !same(got, impl.Block{}) {
			t.Errorf("%d stones and %d..%d: %d", len(c.b.Stones), c.from, c.to, len(got.Stones))
		}
	}
	for _, n := range []int{99, 100, 101, 200} {
		b := impl.Block{To: 1000, Level: 1, Series: manySeries(n)}
		got := checkDelete(t, b, nil, 5, 9)
		if n <= 100 && len(got.Stones) != n || n > 100 && !same(got, impl.Block{}) {
			t.Errorf("%d series: %d stones", n, len(got.Stones))
		}
		// Where nothing is to be covered there is nothing too much.
		if got := checkDelete(t, b, nil, 1000, 2000); !same(got, b) {
			t.Errorf("%d series: %d stones", n, len(got.Stones))
		}
	}
	some := impl.Block{To: 1000, Level: 1, Series: manySeries(200)}
	some = checkDelete(t, some, []impl.Matcher{{Name: "_name", Op: impl.MatchLike, Value: "s100?|s101?"}}, 5, 9)
	some = checkDelete(t, some, []impl.Matcher{{Name: "_name", Op: impl.MatchLike, Value: "s11*"}, {Name: "_name", Op: impl.MatchUnlike, Value: "s118?|s119?"}}, 7, 8)
	if len(some.Stones) != 100 {
		t.Fatalf("%d stones", len(some.Stones))
	}
	if got := checkDelete(t, some, []impl.Matcher{{Name: "_name", Op: impl.MatchSame, Value: "s1190"}}, 7, 8); !same(got, impl.Block{}) {
		t.Errorf("%d stones", len(got.Stones))
	}
	if got := checkDelete(t, some, []impl.Matcher{{Name: "_name", Op: impl.MatchSame, Value: "s1100"}}, 9, 70); len(got.Stones) != 100 {
		t.Errorf("%d stones", len(got.Stones))
	}
}

func TestBytesOfBlocks(t *testing.T) {
	empty := impl.Block{From: 5, To: 300, Level: 2}
	if got := checkPackBlock(t, empty); !bytes.Equal(got, blockBytes([]byte{5, 172, 2, 2, 0, 0, 0})) {
		t.Errorf("no series: %v", got)
	}
	// `up` and `_name` are Names and Values, and stand once among the words.
	b := impl.Block{To: 100, Level: 1, Series: []impl.Series{
		{Labels: labelsOf("_name", "_name", "up", "up"), Samples: []impl.Sample{{Time: 5, Value: 7}}},
		{Labels: labelsOf("_name", "up", "job", "_name"), Samples: []impl.Sample{{Time: 6, Value: -1}, {Time: 21, Value: -1}}},
	}, Stones: []impl.Stone{{Labels: labelsOf("_name", "up", "job", "_name"), From: 20, To: 30}}}
	want := blockBytes(
		numbers(0, 100, 1, 3), []byte("\x05_name\x03job\x02up"),
		numbers(2), numbers(2, 0, 0, 2, 2, 1), chunkBytes(b.Series[0].Samples...), numbers(2, 0, 2, 1, 0, 1), chunkBytes(b.Series[1].Samples...),
		numbers(1, 1, 20, 30))
	if got := checkPackBlock(t, b); !bytes.Equal(got, want) {
		t.Errorf("%v, not %v", got, want)
	}
	if chunk := chunkBytes(b.Series[0].Samples...); len(chunk) != 15 || chunk[0] != 112 {
		t.Errorf("%v", chunk)
	}
	for _, n := range []int{1, 119, 120, 121, 239, 240, 241, 1999, 2000} {
		b := impl.Block{To: 5000, Level: 1, Series: []impl.Series{series("a", steadySamples(n, 0, 2, 9)...)}}
		for i := range b.Series[0].Samples {
			b.Series[0].Samples[i].Value = i * i % 77
		}
		data := checkPackBlock(t, b)
		chunks := (n + 119) / 120
		if at := bytes.Index(data, []byte{1, 1, 0, 1, byte(chunks)}); at < 0 {
			t.Errorf("%d samples: %v", n, data)
		}
		if _, code := checkReadBlock(t, data); code != 0 {
			t.Errorf("%d samples: %d", n, code)
		}
	}
	all := impl.Block{To: 1000, Level: 1, Series: manySeries(200)}
	for i := range all.Series {
		all.Series[i].Labels = append(all.Series[i].Labels, manyLabels(19)...)
	}
	if back, code := checkReadBlock(t, checkPackBlock(t, all)); code != 0 || len(back.Series) != 200 {
		t.Errorf("200 series: %d", code)
	}
}

// blockOfSize is a good block of just so many bytes, by the lengths of its values.
func blockOfSize(t *testing.T, size int) impl.Block {
	b := impl.Block{To: 1000, Level: 1, Series: manySeries(200)}
	for i := range b.Series {
		for j := range 19 {
			b.Series[i].Labels = append(b.Series[i].Labels, impl.Label{Name: "n" + strconv.Itoa(10+j), Value: strconv.Itoa(1000+i) + strings.Repeat("v", 70) + strconv.Itoa(10+j)})
		}
	}
	missing := size - len(writeBlock(b))
	for i := range b.Series {
		for j := range 19 {
			more := min(missing, 24)
			b.Series[i].Labels[j+1].Value += strings.Repeat("w", more)
			missing -= more
		}
	}
	if missing != 0 || len(writeBlock(b)) != size {
		t.Fatalf("%d bytes, %d asked for", len(writeBlock(b)), size)
	}
	return b
}

func TestBlocksAtMaxBlock(t *testing.T) {
	for _, size := range []int{maxBlock - 1, maxBlock, maxBlock + 1, maxBlock + 4} {
		b := blockOfSize(t, size)
		data := checkPackBlock(t, b)
		if size > maxBlock {
			if len(data) > 0 {
				t.Errorf("%d bytes: %d", size, len(data))
			}
			if got, code := checkReadBlock(t, writeBlock(b)); code != 1 || !same(got, impl.Block{}) {
				t.Errorf("%d bytes: %d", size, code)
			}
			continue
		}
		if got, code := checkReadBlock(t, data); len(data) != size || code != 0 || !same(got, b) {
			t.Errorf("%d bytes: %d, %d", size, len(data), code)
		}
	}
	// As many samples as a block has at most, steady ones and others.
	full := impl.Block{To: maxTime + 1, Level: 9, Series: manySeries(200)}
	for i := range full.Series {
		full.Series[i].Samples = steadySamples(2000, i, 1, i)
	}
	data := impl.PackBlock(full)
	if back, code := impl.ReadBlock(data); len(data) == 0 || code != 0 || !same(back, full) {
		t.Errorf("%d bytes: %d", len(data), code)
	}
	r := rand.New(rand.NewSource(101))
	for i := range full.Series {
		for j := range full.Series[i].Samples {
			full.Series[i].Samples[j].Value = int(r.Uint64())
		}
	}
	if got := impl.PackBlock(full); !impl.GoodBlock(full) || len(got) > 0 {
		t.Errorf("%d bytes", len(got))
	}
}

// Each of the answers, and which of them comes first.
func TestAnswersOfReadBlock(t *testing.T) {
	good := checkPackBlock(t, stonedBlock([2]int{3, 4}))
	wrongMark := slices.Concat([]byte("WTB2"), good[4:])
	wrongSum := slices.Clone(good)
	wrongSum[len(wrongSum)-1]++
	long := func(data []byte) []byte { return append(slices.Clone(data), make([]byte, maxBlock+1-len(data))...) }
	for _, c := range []struct {
		name string
		data []byte
		want int
	}{
		{"good", good, 0},
		{"nil", nil, 1}, {"no bytes", []byte{}, 1}, {"a mark alone", []byte("WTB1"), 1}, {"seven bytes", []byte("WTB1abc"), 1}, {"seven others", []byte("abcdefg"), 1}, {"seven with a sum", summed([]byte("WTB")), 1},
		{"too long", long(good), 1}, {"too long, with another mark", long(wrongMark), 1}, {"too long, with a right sum", summed(long(good)[:maxBlock-3]), 1}, {"too long by far", make([]byte, 1<<21), 1},
		{"eight others", []byte("abcdefgh"), 2}, {"eight noughts", make([]byte, 8), 2}, {"another mark, its sum wrong", wrongMark, 2}, {"another mark, its sum right", summed(wrongMark[:len(wrongMark)-4]), 2}, {"small letters", summed(slices.Concat([]byte("wtb1"), good[4:len(good)-4])), 2}, {"the mark one byte on", slices.Concat([]byte{0}, good), 2}, {"MaxBlock noughts", make([]byte, maxBlock), 2},
		{"a wrong sum", wrongSum, 3}, {"a mark and no sum", []byte("WTB1WTB1"), 3}, {"a wrong sum and no block", slices.Concat([]byte("WTB1"), make([]byte, 4)), 3}, {"one byte cut", good[:len(good)-1], 3}, {"one byte more", append(slices.Clone(good), 0), 3}, {"a byte between", slices.Concat(good[:len(good)-4], []byte{0}, good[len(good)-4:]), 3}, {"MaxBlock bytes, a wrong sum", append([]byte("WTB1"), make([]byte, maxBlock-4)...), 3},
		{"a mark and its sum", summed([]byte("WTB1")), 4}, {"one number", blockBytes([]byte{0}), 4}, {"MaxBlock bytes, a right sum", summed(append([]byte("WTB1"), make([]byte, maxBlock-8)...)), 4}, {"a good block with a right sum behind its own", summed(good), 4}, {"a good block and a byte more", summed(append(slices.Clone(good[:len(good)-4]), 0)), 4}, {"a good block and a byte less", summed(good[:len(good)-5]), 4},
	} {
		if b, code := checkReadBlock(t, c.data); code != c.want || (code == 0) == same(b, impl.Block{}) {
			t.Errorf("%s: %d, %.300s", c.name, code, fmt.Sprint(b))
		}
	}
	// What lies behind the length is not read.
	if b, code := impl.ReadBlock(good[:len(good)-4]); code == 0 {
		t.Errorf("bytes from behind: %v", b)
	}
}

// blockParts are the parts of a small block, each to be put in another's place.
type blockParts struct {
	span, words, series, stones []byte
}

func (p blockParts) bytes() []byte {
	return blockBytes(p.span, p.words, p.series, p.stones)
}

// smallParts are those of a block of two series, with the words _name, a, job and up.
func smallParts() blockParts {
	return blockParts{
		span:   numbers(3, 300, 1),
		words:  slices.Concat(numbers(4), textBytes("_name"), textBytes("a"), textBytes("job"), textBytes("up")),
		series: slices.Concat(numbers(2, 1, 0, 3, 1), chunkBytes(impl.Sample{Time: 5, Value: 7}), numbers(2, 0, 3, 2, 1, 1), chunkBytes(impl.Sample{Time: 6, Value: 8}, impl.Sample{Time: 299, Value: 8})),
		stones: numbers(3, 0, 3, 9, 0, 11, 12, 1, 200, 299),
	}
}

// wrongBlock is how a block's parts are not right, and how they are.
type wrongBlock struct {
	name         string
	wrong, right blockParts
}

func wrongBlocks() []wrongBlock {
	var out []wrongBlock
	base := smallParts()
	add := func(name string, change func(p *blockParts), beside func(p *blockParts)) {
		wrong, right := base, base
		change(&wrong)
		if beside != nil {
			beside(&right)
		}
		out = append(out, wrongBlock{name, wrong, right})
	}
	span := func(name string, wrong []byte, right []byte) {
		add(name, func(p *blockParts) { p.span = wrong }, func(p *blockParts) { p.span = right })
	}
	words := func(name string, wrong ...[]byte) {
		add(name, func(p *blockParts) { p.words = slices.Concat(wrong...) }, nil)
	}
	series := func(name string, wrong []byte, right []byte) {
		add(name, func(p *blockParts) { p.series = wrong }, func(p *blockParts) { p.series = right })
	}
	stones := func(name string, wrong []byte, right []byte) {
		add(name, func(p *blockParts) { p.stones = wrong }, func(p *blockParts) { p.stones = right })
	}
	c1, c2 := chunkBytes(impl.Sample{Time: 5, Value: 7}), chunkBytes(impl.Sample{Time: 6, Value: 8}, impl.Sample{Time: 299, Value: 8})
	up, job := slices.Concat(numbers(1, 0, 3, 1), c1), slices.Concat(numbers(2, 0, 3, 2, 1, 1), c2)
	two := func(first ...[]byte) []byte { return slices.Concat(numbers(2), slices.Concat(first...), job) }
	fine := two(up)
	none := numbers(0)
	text := func(list ...string) []byte {
		var out []byte
		for _, s := range list {
			out = append(out, textBytes(s)...)
		}
		return out
	}

	span("From in more pieces", []byte{131, 0, 172, 2, 1}, base.span)
	span("To in more pieces", []byte{3, 172, 130, 0, 1}, base.span)
	span("Level in more pieces", []byte{3, 172, 2, 129, 0}, base.span)
	span("Level 0", numbers(3, 300, 0), numbers(3, 300, 1))
	span("Level 10", numbers(3, 300, 10), numbers(3, 300, 9))
	span("Level -1", numbers(3, 300, -1), base.span)
	span("From below 0", numbers(-1, 300, 1), numbers(0, 300, 1))
	span("From behind a sample", numbers(6, 300, 1), base.span)
	span("To at a sample", numbers(3, 299, 1), numbers(3, 300, 1))
	span("To beyond MaxTime + 1", numbers(3, maxTime+2, 1), numbers(3, maxTime+1, 1))
	span("To ahead of From", numbers(300, 3, 1), base.span)
	span("a span of ten bytes", numbers(math.MinInt, math.MaxInt, 1), base.span)
	span("no Level", numbers(3, 300), base.span)
	span("no span", nil, base.span)

	words("words that do not rise", numbers(4), text("_name", "job", "a", "up"))
	words("the last two words not rising", numbers(4), text("_name", "a", "up", "job"))
	words("a word twice", numbers(5), text("_name", "a", "job", "up", "up"))
	words("a word that no label has, at last", numbers(5), text("_name", "a", "job", "up", "zone"))
	words("fewer words than it says", numbers(5), text("_name", "a", "job", "up"))
	words("more words than it says", numbers(3), text("_name", "a", "job", "up"))
	words("no words", numbers(0))
	words("-1 words", numbers(-1))
	words("very many words", numbers(math.MaxInt), text("_name", "a", "job", "up"))
	words("how many words in more pieces", []byte{132, 0}, text("_name", "a", "job", "up"))
	words("a word's length in more pieces", numbers(4), []byte{133, 0}, []byte("_name"), text("a", "job", "up"))
	words("the last word's length in more pieces", numbers(4), text("_name", "a", "job"), []byte{130, 0}, []byte("up"))
	words("a word's length below 0", numbers(4), text("_name", "a", "job"), numbers(-1), []byte("up"))
	words("the greatest length of a word", numbers(4), text("_name", "a", "job"), numbers(math.MaxInt), []byte("up"))
	words("a word that is no name", numbers(4), text("_name", "a", "j b", "up"))
	words("a word that is no value", numbers(4), text("_name", "\x07", "job", "up"))
	words("an empty word", numbers(4), text("", "a", "job", "up"))
	words("a word that is too long a value", numbers(4), text("_name", strings.Repeat("a", 101), "job", "up"))
	add("a word ahead that no label has", func(p *blockParts) {
		p.words = slices.Concat(numbers(5), text("A", "_name", "a", "job", "up"))
		p.series = slices.Concat(numbers(2, 1, 1, 4, 1), c1, numbers(2, 1, 4, 3, 2, 1), c2)
	}, nil)
	add("a word twice, each with a label", func(p *blockParts) {
		p.words = slices.Concat(numbers(5), text("_name", "a", "job", "up", "up"))
		p.series = slices.Concat(numbers(2, 1, 0, 3, 1), c1, numbers(2, 0, 4, 2, 1, 1), c2)
	}, nil)
	add("words that do not rise, with their numbers", func(p *blockParts) {
		p.words = slices.Concat(numbers(4), text("_name", "up", "job", "a"))
		p.series = slices.Concat(numbers(2, 1, 0, 1, 1), c1, numbers(2, 0, 1, 2, 3, 1), c2)
	}, nil)

	series("no series where words are told", numbers(0), fine)
	series("fewer series than it says", slices.Concat(numbers(3), up, job), fine)
	series("more series than it says", slices.Concat(numbers(1), up, job), fine)
	series("-1 series", slices.Concat(numbers(-1), up, job), fine)
	series("very many series", slices.Concat(numbers(math.MaxInt), up, job), fine)
	series("how many series in more pieces", slices.Concat([]byte{130, 0}, up, job), fine)
	series("series that do not rise", slices.Concat(numbers(2), job, up), fine)
	series("one series twice", slices.Concat(numbers(3), up, up, job), fine)
	series("a series without labels", two(numbers(0, 1), c1), fine)
	series("-1 labels", two(numbers(-1, 0, 3, 1), c1), fine)
	series("-1 labels and none", two(numbers(-1, 1), c1), fine)
	series("very many labels", two(numbers(math.MaxInt, 0, 3, 1), c1), fine)
	series("how many labels in more pieces", two([]byte{129, 0, 0, 3, 1}, c1), fine)
	series("a label twice", two(numbers(2, 0, 3, 0, 3, 1), c1), fine)
	series("labels that do not rise", slices.Concat(numbers(2), up, numbers(2, 2, 1, 0, 3, 1), c2), fine)
	series("no _name", slices.Concat(numbers(2), up, numbers(1, 2, 1, 1), c2), fine)
	series("a Name's number one too great", two(numbers(1, 4, 3, 1), c1), fine)
	series("a Value's number one too great", two(numbers(1, 0, 4, 1), c1), fine)
	series("a Value's number below 0", two(numbers(1, 0, -1, 1), c1), fine)
	series("a Name's number below 0", two(numbers(1, math.MinInt, 3, 1), c1), fine)
	series("the greatest number of a Name", two(numbers(1, math.MaxInt, 3, 1), c1), fine)
	series("a Name's number in more pieces", two([]byte{1, 128, 0, 3, 1}, c1), fine)
	series("a Value's number in more pieces", two([]byte{1, 0, 131, 0, 1}, c1), fine)
	series("no chunks", two(numbers(1, 0, 3, 0)), fine)
	series("-1 chunks", two(numbers(1, 0, 3, -1)), fine)
	series("very many chunks", two(numbers(1, 0, 3, math.MaxInt), c1), fine)
	series("how many chunks in more pieces", two([]byte{1, 0, 3, 129, 0}, c1), fine)
	series("a chunk of none", two(numbers(1, 0, 3, 1), chunkBytes()), fine)
	series("a chunk of none ahead", two(numbers(1, 0, 3, 2), chunkBytes(), c1), fine)
	series("a chunk of none behind", two(numbers(1, 0, 3, 2), c1, chunkBytes()), fine)
	series("Size 0", two(numbers(1, 0, 3, 1, 0)), fine)
	series("Size 0 ahead", two(numbers(1, 0, 3, 2, 0), c1), fine)
	series("Size in more pieces", two(numbers(1, 0, 3, 1), []byte{240, 0}, c1[1:]), fine)
	series("Size one less", two(numbers(1, 0, 3, 1, 111), c1[1:]), fine)
	series("Size one more", two(numbers(1, 0, 3, 1, 113), c1[1:], []byte{0}), fine)
	series("Size below 0", two(numbers(1, 0, 3, 1, -1), c1[1:]), fine)
	series("the greatest Size", two(numbers(1, 0, 3, 1, math.MaxInt), c1[1:]), fine)
	series("the least Size", two(numbers(1, 0, 3, 1, math.MinInt), c1[1:]), fine)
	series("Size beyond all bits", two(numbers(1, 0, 3, 1, 80008), c1[1:]), fine)
	series("a chunk that tells one sample more", two(numbers(1, 0, 3, 1), numbers(112), []byte{2}, c1[2:]), fine)
	series("samples at one time in two chunks", two(numbers(1, 0, 3, 2), c1, c1), fine)
	series("chunks that are not full", two(numbers(1, 0, 3, 2), c1, chunkBytes(impl.Sample{Time: 6, Value: 7})), two(numbers(1, 0, 3, 1), chunkBytes(impl.Sample{Time: 5, Value: 7}, impl.Sample{Time: 6, Value: 7})))
	full := steadySamples(121, 5, 2, 7)
	whole := two(numbers(1, 0, 3, 2), chunkBytes(full[:120]...), chunkBytes(full[120:]...))
	series("a first chunk with one less", two(numbers(1, 0, 3, 2), chunkBytes(full[:119]...), chunkBytes(full[119:]...)), whole)
	series("a first chunk with one alone", two(numbers(1, 0, 3, 2), chunkBytes(full[:1]...), chunkBytes(full[1:]...)), whole)
	series("three chunks in place of two", two(numbers(1, 0, 3, 3), chunkBytes(full[:120]...), chunkBytes(), chunkBytes(full[120:]...)), whole)
	series("121 in one chunk", two(numbers(1, 0, 3, 1), chunkBytes(full...)), whole)
	series("chunks the other way round", two(numbers(1, 0, 3, 2), chunkBytes(full[120:]...), chunkBytes(full[:120]...)), whole)
	padded := slices.Clone(c2)
	padded[len(padded)-1] |= 1
	if b := textBits(chunkModel([]impl.Sample{{Time: 6, Value: 8}, {Time: 299, Value: 8}})); b.Size%8 != 0 {
		series("a bit behind a chunk's bits", slices.Concat(numbers(2), up, numbers(2, 0, 3, 2, 1, 1), padded), fine)
	}

	stones("no number of stones", nil, none)
	stones("fewer stones than it says", numbers(2, 0, 3, 9), numbers(1, 0, 3, 9))
	stones("more stones than it says", numbers(1, 0, 3, 9, 1, 3, 9), numbers(2, 0, 3, 9, 1, 3, 9))
	stones("-1 stones", numbers(-1), none)
	stones("very many stones", numbers(math.MaxInt, 0, 3, 9), none)
	stones("how many stones in more pieces", []byte{129, 0, 0, 3, 9}, numbers(1, 0, 3, 9))
	stones("no stones in two pieces", []byte{128, 0}, none)
	stones("something left over", numbers(0, 0), none)
	stones("much left over", slices.Concat(base.stones, base.stones), base.stones)
	stones("a stone's series in more pieces", []byte{1, 128, 0, 3, 9}, numbers(1, 0, 3, 9))
	stones("a stone's From in more pieces", []byte{1, 0, 131, 0, 9}, numbers(1, 0, 3, 9))
	stones("a stone's To in more pieces", []byte{1, 0, 3, 137, 0}, numbers(1, 0, 3, 9))
	stones("a stone of series 2", numbers(1, 2, 3, 9), numbers(1, 1, 3, 9))
	stones("a stone of series -1", numbers(1, -1, 3, 9), numbers(1, 0, 3, 9))
	stones("a stone of the greatest number", numbers(1, math.MaxInt, 3, 9), none)
	stones("a stone that begins too early", numbers(1, 0, 2, 9), numbers(1, 0, 3, 9))
	stones("a stone that ends too late", numbers(1, 0, 9, 300), numbers(1, 0, 9, 299))
	stones("a stone that ends ahead of its beginning", numbers(1, 0, 9, 8), numbers(1, 0, 9, 9))
	stones("a stone of all times", numbers(1, 0, math.MinInt, math.MaxInt), numbers(1, 0, 3, 299))
	stones("stones that do not rise by From", numbers(2, 0, 11, 12, 0, 3, 9), numbers(2, 0, 3, 9, 0, 11, 12))
	stones("stones that do not rise by series", numbers(2, 1, 3, 9, 0, 3, 9), numbers(2, 0, 3, 9, 1, 3, 9))
	stones("stones side by side", numbers(2, 0, 3, 9, 0, 10, 12), numbers(2, 0, 3, 9, 0, 11, 12))
	stones("stones that meet", numbers(2, 0, 3, 9, 0, 9, 12), numbers(2, 0, 3, 9, 1, 9, 12))
	stones("one stone twice", numbers(2, 0, 3, 9, 0, 3, 9), numbers(1, 0, 3, 9))
	for i, n := range []int{100, 101} {
		list := numbers(n)
		for j := range n {
			list = append(list, numbers(0, 3+2*j, 3+2*j)...)
		}
		if i == 1 {
			stones("101 stones", list, none)
		} else {
			stones("a byte behind 100 stones", append(slices.Clone(list), 0), list)
		}
	}
	return out
}

// Bytes with a right sum that are no good block's are not read, those beside them are.
func TestBytesThatAreNoBlock(t *testing.T) {
	if b, code := checkReadBlock(t, smallParts().bytes()); code != 0 || len(b.Series) != 2 || len(b.Stones) != 3 {
		t.Fatalf("%d, %v", code, b)
	}
	for _, c := range wrongBlocks() {
		if b, code := checkReadBlock(t, c.wrong.bytes()); code != 4 || !same(b, impl.Block{}) {
			t.Errorf("%s: %d, %.300s", c.name, code, fmt.Sprint(b))
		}
		if b, code := checkReadBlock(t, c.right.bytes()); code != 0 || !goodBlockModel(b) {
			t.Errorf("beside %s: %d, %.300s", c.name, code, fmt.Sprint(b))
		}
	}
	// A block without series has no words.
	if b, code := checkReadBlock(t, blockBytes(numbers(3, 300, 1), none3())); code != 0 || !same(b, impl.Block{From: 3, To: 300, Level: 1}) {
		t.Errorf("%d, %v", code, b)
	}
	for _, parts := range [][]byte{numbers(1, 1, 'a', 0, 0), numbers(0, 1, 0, 0, 0), numbers(0, 0), numbers(0), numbers(0, 0, 1, 0, 0, 0), numbers(0, 0, 0, 0)} {
		if b, code := checkReadBlock(t, blockBytes(numbers(3, 300, 1), parts)); code != 4 {
			t.Errorf("%v: %d, %v", parts, code, b)
		}
	}
}

// none3 tells that there are no words, no series and no stones.
func none3() []byte {
	return numbers(0, 0, 0)
}

// Few bytes that speak of much more than a block has come to no great memory, and to no block.
func TestBytesThatSpeakOfTooMuch(t *testing.T) {
	labels := bytes.Repeat(numbers(0, 0), 90000)
	stones := bytes.Repeat(numbers(0, 3, 9), 60000)
	chunk := chunkBytes(steadySamples(120, 5, 1, 7)...)
	for i, data := range [][]byte{
		slices.Concat(numbers(1), textBytes("a"), numbers(1, 90000), labels, numbers(1), chunk, numbers(60000), stones),
		slices.Concat(numbers(1), textBytes("a"), numbers(1, 20), labels[:40], numbers(1), chunk, numbers(60000), stones),
		slices.Concat(numbers(1), textBytes("a"), numbers(1, 1, 0, 0), numbers(8000), bytes.Repeat(chunk, 8000), numbers(0)),
		slices.Concat(numbers(1), textBytes("a"), numbers(90000), bytes.Repeat(numbers(0, 0), 90000), numbers(0)),
		slices.Concat(numbers(300000), make([]byte, 300000), numbers(0, 0)),
		slices.Concat(numbers(1), textBytes(strings.Repeat("a", 300000)), numbers(200), bytes.Repeat(numbers(1, 0, 0, 0), 200), numbers(0)),
	} {
		if b, code := impl.ReadBlock(blockBytes(numbers(3, 3000, 1), data)); code != 4 || !same(b, impl.Block{}) {
			t.Errorf("%d: %d", i, code)
		}
	}
}

// Bytes near to those of blocks, with sums that are right.
func TestBlocksChangedAtRandom(t *testing.T) {
	r := rand.New(rand.NewSource(102))
	read, refused := 0, 0
	for range 30000 {
		p := smallParts()
		for range 1 + r.Intn(2) {
			part := []*[]byte{&p.span, &p.words, &p.series, &p.stones, &p.stones}[r.Intn(5)]
			data := slices.Clone(*part)
			i := r.Intn(len(data))
			switch r.Intn(5) {
			case 0:
				if len(data) > 1 {
					data = slices.Delete(data, i, i+1)
				}
			case 1:
				data = slices.Insert(data, i, byte(r.Intn(4)))
			case 2:
				data[i] = byte(r.Intn(256))
			case 3:
				data[i] ^= 1 << r.Intn(8)
			default:
				data[i] += byte(r.Intn(5) - 2)
			}
			*part = data
		}
		if _, code := checkReadBlock(t, p.bytes()); code == 0 {
			read++
		} else {
			refused++
		}
	}
	if read < 2000 || refused < 5000 {
		t.Errorf("%d read, %d refused", read, refused)
	}
	for range 3000 {
		noise := noiseBytes(r)
		checkReadBlock(t, noise)
		checkReadBlock(t, blockBytes(noise))
		checkReadBlock(t, append([]byte("WTB1"), noise...))
	}
}

// Answers are new memory: what is written into one shows in no other, and in no argument.
func TestAnswersOfBlocksAreNew(t *testing.T) {
	r := rand.New(rand.NewSource(103))
	for range 200 {
		b, m := fewBlock(r), blockMatchers(r)
		was, matchersWere := laid(b, 0), slices.Clone(m)
		data := impl.PackBlock(b)
		dataWas := slices.Clone(data)
		for _, x := range []impl.Block{impl.DeleteIn(b, m, b.From, b.From+3), impl.DeleteIn(b, nil, 5, 4), impl.DeleteIn(b, nil, math.MinInt, math.MaxInt)} {
			scribbleBlock(x)
		}
		back, _ := impl.ReadBlock(data)
		scribbleBlock(back)
		scribbleBlock(impl.Block{Series: impl.SelectBlock(b, m, math.MinInt, math.MaxInt)})
		for _, l := range [][]int{impl.LookUp(b, m), impl.LookUp(b, nil), impl.Postings(b, "none", "")} {
			for i := range l[:cap(l)] {
				l[:cap(l)][i] = 99
			}
		}
		if !same(b, was) || !slices.Equal(m, matchersWere) || !bytes.Equal(data, dataWas) {
			t.Fatal("an argument was written into")
		}
		for i := range data {
			data[i] = 99
		}
		if got := checkLookUp(t, b, nil); len(got) != len(b.Series) {
			t.Fatalf("%v", got)
		}
		checkPackBlock(t, b)
	}
}

// scribbleBlock writes over the memory of a block.
func scribbleBlock(b impl.Block) {
	for _, s := range b.Stones {
		scribble(s.Labels)
	}
	for _, s := range b.Series {
		scribble(s.Labels)
		clear(s.Samples[:cap(s.Samples)])
	}
	clear(b.Stones[:cap(b.Stones)])
	clear(b.Series[:cap(b.Series)])
}
