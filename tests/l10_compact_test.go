package tests

import (
	"fmt"
	"math"
	"math/rand"
	"slices"
	"strings"
	"testing"

	"loop.example/g00039/impl"
)

const maxBase = 1000000

func widthModel(base int, level int) int {
	times := map[int]int{1: 1, 2: 3, 3: 9, 4: 27}[level]
	if base < 1 || base > maxBase {
		return 0
	}
	return base * times
}

func goodShelfModel(base int, l []impl.Block) bool {
	if base < 1 || base > maxBase || len(l) > 100 {
		return false
	}
	for i, b := range l {
		width := widthModel(base, b.Level)
		if !goodBlockModel(b) || width == 0 || b.From%width != 0 || b.To-b.From != width || i > 0 && b.From < l[i-1].To {
			return false
		}
	}
	return true
}

// cutHeadModel lays the samples of a head into a book for each span that is over, and one for what stays.
func cutHeadModel(h impl.Head, base int, before int) (impl.Head, []impl.Block) {
	if !goodHeadModel(h) || base < 1 || base > maxBase || before < 0 || before > maxTime {
		return impl.Head{}, nil
	}
	left := impl.Head{Window: h.Window, Limit: h.Limit, Newest: h.Newest}
	stay, spans := bookOf(left), map[int]*headBook{}
	var begins []int
	for _, s := range h.Series {
		for _, x := range s.Samples {
			at, book := base*(x.Time/base), stay
			if at+base-1 < before {
				if spans[at] == nil {
					spans[at] = bookOf(impl.Head{})
					begins = append(begins, at)
				}
				book = spans[at]
			}
			book.write(impl.Put{Labels: s.Labels, Time: x.Time, Value: x.Value})
		}
	}
	if len(begins) > 100 {
		return impl.Head{}, nil
	}
	slices.Sort(begins)
	var blocks []impl.Block
	for _, at := range begins {
		blocks = append(blocks, impl.Block{From: at, To: at + base, Level: 1, Series: spans[at].head().Series})
	}
	return stay.head(), blocks
}

// bookOfBlocks writes what blocks say of matchers and a span into one book.
func bookOfBlocks(l []impl.Block, m []impl.Matcher, from int, to int) *headBook {
	book := bookOf(impl.Head{})
	for _, b := range l {
		for _, s := range selectBlockModel(b, m, from, to) {
			for _, x := range s.Samples {
				book.write(impl.Put{Labels: s.Labels, Time: x.Time, Value: x.Value})
			}
		}
	}
	return book
}

func mergeBlocksModel(base int, l []impl.Block) impl.Block {
	if !goodShelfModel(base, l) || len(l) == 0 {
		return impl.Block{}
	}
	level := 0
	for _, b := range l {
		level = max(level, b.Level)
	}
	width := widthModel(base, level+1)
	if width == 0 {
		return impl.Block{}
	}
	span := l[0].From / width
	for _, b := range l {
		if b.From/width != span || (b.To-1)/width != span {
			return impl.Block{}
		}
	}
	out := impl.Block{From: span * width, To: (span + 1) * width, Level: level + 1, Series: bookOfBlocks(l, nil, math.MinInt, math.MaxInt).head().Series}
	if !goodBlockModel(out) {
		return impl.Block{}
	}
	return out
}

// spanPlan tells the numbers of the blocks in a span of a level, if they are to become one.
func spanPlan(base int, l []impl.Block, level int, from int) []int {
	var in []int
	var blocks []impl.Block
	below, above, behind := false, false, false
	for i, b := range l {
		behind = behind || b.From >= from+widthModel(base, level)
		if b.From >= from && b.To <= from+widthModel(base, level) {
			in, blocks = append(in, i), append(blocks, b)
			below = below || b.Level == level-1
			above = above || b.Level >= level
		}
	}
	if !below || above || !behind || !goodBlockModel(mergeBlocksModel(base, blocks)) {
		return nil
	}
	return in
}

func planModel(base int, l []impl.Block) []int {
	if !goodShelfModel(base, l) {
		return nil
	}
	for level := 2; level <= 4; level++ {
		width := widthModel(base, level)
		for i, b := range l {
			from := b.From / width * width
			if i > 0 && from == l[i-1].From/width*width {
				continue
			}
			if in := spanPlan(base, l, level, from); len(in) > 0 {
				return in
			}
		}
	}
	return nil
}

func compactModel(base int, l []impl.Block) []impl.Block {
	if !goodShelfModel(base, l) {
		return nil
	}
	for {
		in := planModel(base, l)
		if len(in) == 0 {
			return l
		}
		first, end := in[0], in[len(in)-1]+1
		l = slices.Concat(l[:first], []impl.Block{mergeBlocksModel(base, l[first:end])}, l[end:])
	}
}

func retainModel(base int, l []impl.Block, from int) []impl.Block {
	var out []impl.Block
	for _, b := range l {
		if goodShelfModel(base, l) && b.To > from {
			out = append(out, b)
		}
	}
	return out
}

func selectBlocksModel(base int, l []impl.Block, m []impl.Matcher, from int, to int) []impl.Series {
	if !goodShelfModel(base, l) || !goodMatchersModel(m) {
		return nil
	}
	out := bookOfBlocks(l, m, from, to).head().Series
	if !goodSeriesModel(out) {
		return nil
	}
	return out
}

func deleteBlocksModel(base int, l []impl.Block, m []impl.Matcher, from int, to int) []impl.Block {
	if !goodShelfModel(base, l) || !goodMatchersModel(m) {
		return nil
	}
	var out []impl.Block
	for _, b := range l {
		left := deleteModel(b, m, from, to)
		if !goodBlockModel(left) {
			return nil
		}
		out = append(out, left)
	}
	return out
}

// shortly tells a value in few words.
func shortly(x any) string {
	return fmt.Sprintf("%.700s", fmt.Sprint(x))
}

func checkShelf(t *testing.T, base int, l []impl.Block) bool {
	t.Helper()
	arg, kept := guarded(l)
	got := impl.GoodShelf(base, arg)
	if got != goodShelfModel(base, l) || !kept() {
		t.Fatalf("GoodShelf of %d, %s: %v", base, shortly(l), got)
	}
	return got
}

// checkCut holds CutHead against the model; what it answers is a good head and a shelf.
func checkCut(t *testing.T, h impl.Head, base int, before int) (impl.Head, []impl.Block) {
	t.Helper()
	arg, kept := guarded(h)
	head, blocks := impl.CutHead(arg, base, before)
	wantHead, wantBlocks := cutHeadModel(h, base, before)
	if !same(head, wantHead) || !same(blocks, wantBlocks) || !kept() {
		t.Fatalf("CutHead of %s, %d, %d:\n%s\n%s\nnot %s\n%s", shortly(h), base, before, shortly(head), shortly(blocks), shortly(wantHead), shortly(wantBlocks))
	}
	checkOwn(t, struct {
		Head   impl.Head
		Blocks []impl.Block
	}{head, blocks}, arg)
	if len(blocks) > 0 && (!goodHeadModel(head) || !goodShelfModel(base, blocks)) {
		t.Fatalf("CutHead of %s, %d, %d:\n%s\n%s", shortly(h), base, before, shortly(head), shortly(blocks))
	}
	return head, blocks
}

func checkPlan(t *testing.T, base int, l []impl.Block) []int {
	t.Helper()
	arg, kept := guarded(l)
	got := impl.PlanOf(base, arg)
	if want := planModel(base, l); !slices.Equal(got, want) || !kept() {
		t.Fatalf("PlanOf of %d, %s: %v, not %v", base, shortly(l), got, want)
	}
	return got
}

func checkMergeBlocks(t *testing.T, base int, l []impl.Block) impl.Block {
	t.Helper()
	arg, kept := guarded(l)
	got := impl.MergeBlocks(base, arg)
	if want := mergeBlocksModel(base, l); !same(got, want) || !kept() {
		t.Fatalf("MergeBlocks of %d, %s:\n%s\nnot %s", base, shortly(l), shortly(got), shortly(want))
	}
	checkOwn(t, got, arg)
	return got
}

// checkBlocks sees that an answer of blocks is what it is to be, in memory of its own, and that the shelf it came of is as it was.
func checkBlocks(t *testing.T, name string, base int, l []impl.Block, want []impl.Block, call func(l []impl.Block) []impl.Block) []impl.Block {
	t.Helper()
	arg, kept := guarded(l)
	got := call(arg)
	if !same(got, want) || !kept() {
		t.Fatalf("%s of %d, %s:\n%s\nnot %s", name, base, shortly(l), shortly(got), shortly(want))
	}
	checkOwn(t, got, arg)
	if len(got) > 0 && !goodShelfModel(base, got) {
		t.Fatalf("%s of %d, %s is no shelf: %s", name, base, shortly(l), shortly(got))
	}
	return got
}

func checkCompact(t *testing.T, base int, l []impl.Block) []impl.Block {
	t.Helper()
	return checkBlocks(t, "CompactAll", base, l, compactModel(base, l), func(l []impl.Block) []impl.Block { return impl.CompactAll(base, l) })
}

func checkRetain(t *testing.T, base int, l []impl.Block, from int) []impl.Block {
	t.Helper()
	return checkBlocks(t, fmt.Sprint("RetainBlocks from ", from), base, l, retainModel(base, l, from), func(l []impl.Block) []impl.Block { return impl.RetainBlocks(base, l, from) })
}

func checkSelectBlocks(t *testing.T, base int, l []impl.Block, m []impl.Matcher, from int, to int) []impl.Series {
	t.Helper()
	arg, kept := guarded(l)
	list, listKept := guarded(m)
	got := impl.SelectBlocks(base, arg, list, from, to)
	if want := selectBlocksModel(base, l, m, from, to); !same(got, want) || !kept() || !listKept() {
		t.Fatalf("SelectBlocks of %d, %s, %v, %d, %d:\n%s\nnot %s", base, shortly(l), m, from, to, shortly(got), shortly(want))
	}
	checkOwn(t, got, arg, list)
	return got
}

func checkDeleteBlocks(t *testing.T, base int, l []impl.Block, m []impl.Matcher, from int, to int) []impl.Block {
	t.Helper()
	list, kept := guarded(m)
	got := checkBlocks(t, fmt.Sprintf("DeleteBlocks %v, %d, %d", m, from, to), base, l, deleteBlocksModel(base, l, m, from, to), func(l []impl.Block) []impl.Block {
		return impl.DeleteBlocks(base, l, list, from, to)
	})
	if !kept() {
		t.Fatalf("DeleteBlocks wrote into %v", m)
	}
	checkOwn(t, got, list)
	return got
}

// checkAll asks every function of the chapter that takes a shelf.
func checkAll(t *testing.T, base int, l []impl.Block) {
	t.Helper()
	checkShelf(t, base, l)
	checkPlan(t, base, l)
	checkMergeBlocks(t, base, l)
	checkCompact(t, base, l)
	checkRetain(t, base, l, 15)
	checkSelectBlocks(t, base, l, nil, 3, 60)
	checkDeleteBlocks(t, base, l, nil, 12, 17)
}

// blockAt is the k-th block of a level.
func blockAt(base int, level int, k int, l ...impl.Series) impl.Block {
	width := widthModel(base, level)
	return impl.Block{From: k * width, To: (k + 1) * width, Level: level, Series: l}
}

// shelfAt has, of a level and the base 10, the blocks of these numbers; each has one sample of a series at its begin.
func shelfAt(level int, numbers ...int) []impl.Block {
	var out []impl.Block
	for _, k := range numbers {
		b := blockAt(10, level, k)
		b.Series = []impl.Series{series("up", impl.Sample{Time: b.From, Value: k})}
		out = append(out, b)
	}
	return out
}

// spanSeries are a few series with samples in a block's span.
func spanSeries(r *rand.Rand, b impl.Block) []impl.Series {
	book := bookOf(impl.Head{})
	for range r.Intn(8) {
		labels := blockLabels(r)
		for range 1 + r.Intn(3) {
			book.write(impl.Put{Labels: labels, Time: b.From + r.Intn(b.To-b.From), Value: edgeValue(r)})
		}
	}
	return book.head().Series
}

// fewShelf is a small shelf with stones, from the first time on or up to the last.
func fewShelf(r *rand.Rand) (int, []impl.Block) {
	base := []int{1, 2, 3, 10, 37, 1000}[r.Intn(6)]
	at := 0
	if r.Intn(4) == 0 {
		at = maxTime - base*r.Intn(80)
	}
	var l []impl.Block
	for range r.Intn(16) {
		level := 1 + min(r.Intn(4), r.Intn(4), r.Intn(5))
		width := widthModel(base, level)
		k := (at + width - 1) / width
		if r.Intn(4) == 0 {
			k += r.Intn(3)
		}
		b := blockAt(base, level, k)
		if b.To > maxTime+1 {
			break
		}
		b.Series = spanSeries(r, b)
		for range r.Intn(3) {
			from := b.From + r.Intn(width+2) - 1
			b = deleteModel(b, blockMatchers(r), from, from+r.Intn(width))
		}
		l = append(l, b)
		at = b.To
	}
	return base, l
}

// shelfTimes are times at and beside the edges of a shelf's blocks.
func shelfTimes(l []impl.Block) []int {
	out := []int{math.MinInt, -1, 0, maxTime, math.MaxInt}
	for _, b := range l {
		out = append(out, blockTimes(b)...)
	}
	return out
}

// Promise 10: compacted, a shelf says what it said, and nothing more is to be done.
func TestCompactionChangesNothing(t *testing.T) {
	r := rand.New(rand.NewSource(111))
	fewer, levels, found := 0, map[int]int{}, 0
	for range 800 {
		base, l := fewShelf(r)
		if !checkShelf(t, base, l) {
			t.Fatalf("%d, %v", base, l)
		}
		c := checkCompact(t, base, l)
		if p := checkPlan(t, base, c); len(p) > 0 {
			t.Fatalf("%d, %v: compacted %v, and then %v", base, l, c, p)
		}
		if again := checkCompact(t, base, c); !same(again, c) {
			t.Fatalf("%d, %v: compacted once more %v", base, c, again)
		}
		times := shelfTimes(l)
		for i := range 6 {
			m, from, to := blockMatchers(r), times[r.Intn(len(times))], times[r.Intn(len(times))]
			if i == 0 {
				m, from, to = nil, math.MinInt, math.MaxInt
			}
			was := checkSelectBlocks(t, base, l, m, from, to)
			if is := checkSelectBlocks(t, base, c, m, from, to); !same(was, is) {
				t.Fatalf("%d, %v, %v, %d, %d: %v, but compacted %v", base, l, m, from, to, was, is)
			}
			found += len(was)
		}
		fewer += len(l) - len(c)
		for _, b := range c {
			levels[b.Level]++
		}
	}
	if fewer < 500 || found < 1000 || levels[1] < 200 || levels[2] < 200 || levels[3] < 200 || levels[4] < 200 {
		t.Errorf("%d fewer, %d found, %v", fewer, found, levels)
	}
}

// One step of compaction after the other comes to what all do, and each changes nothing of what is said.
func TestCompactionStepByStep(t *testing.T) {
	r := rand.New(rand.NewSource(112))
	steps := 0
	for range 300 {
		base, l := fewShelf(r)
		all := impl.CompactAll(base, l)
		said := impl.SelectBlocks(base, l, nil, 0, maxTime)
		for {
			p := checkPlan(t, base, l)
			if len(p) == 0 {
				break
			}
			first, end := p[0], p[len(p)-1]+1
			if len(p) != end-first {
				t.Fatalf("%d, %v: %v", base, l, p)
			}
			merged := checkMergeBlocks(t, base, l[first:end])
			if !goodBlockModel(merged) || len(merged.Stones) > 0 {
				t.Fatalf("%d, %v: %v", base, l[first:end], merged)
			}
			l = slices.Concat(l[:first], []impl.Block{merged}, l[end:])
			if !checkShelf(t, base, l) || !same(impl.SelectBlocks(base, l, nil, 0, maxTime), said) {
				t.Fatalf("%d: with %v merged %v", base, p, l)
			}
			steps++
		}
		if !same(l, all) {
			t.Fatalf("%d: step by step %v, at once %v", base, l, all)
		}
	}
	if steps < 250 {
		t.Errorf("just %d steps", steps)
	}
}

// Promise 10: what a head has is, behind a cut, in the blocks or in the head, and in just one of them.
func TestCutsChangeNothing(t *testing.T) {
	r := rand.New(rand.NewSource(113))
	cut, kept := 0, 0
	for range 4000 {
		h := fewHead(r)
		base, before := 1+r.Intn(8), r.Intn(30)
		head, blocks := checkCut(t, h, base, before)
		count := 0
		for _, l := range append([][]impl.Series{head.Series}, seriesOfBlocks(blocks)...) {
			for _, s := range l {
				count += len(s.Samples)
			}
		}
		said := impl.MergeSeries(impl.SelectBlocks(base, blocks, nil, 0, maxTime), impl.SelectHead(head, nil, 0, maxTime))
		if was := impl.SelectHead(h, nil, 0, maxTime); !same(said, was) {
			t.Fatalf("%v, %d, %d: %v, not %v", h, base, before, said, was)
		}
		for _, s := range h.Series {
			count -= len(s.Samples)
		}
		if count != 0 {
			t.Fatalf("%v, %d, %d: %v, %v: %d samples too many", h, base, before, head, blocks, count)
		}
		cut += len(blocks)
		kept += len(head.Series)
		// Cut once more there, nothing is left to cut.
		if again, more := checkCut(t, head, base, before); !same(again, head) || len(more) > 0 {
			t.Fatalf("%v, %d, %d: once more %v, %v", h, base, before, again, more)
		}
	}
	if cut < 1000 || kept < 1000 {
		t.Errorf("%d cut, %d kept", cut, kept)
	}
}

// seriesOfBlocks tells the series of blocks, a list a block.
func seriesOfBlocks(l []impl.Block) [][]impl.Series {
	var out [][]impl.Series
	for _, b := range l {
		out = append(out, b.Series)
	}
	return out
}

// Cut at once or in two steps, and then compacted, a head's samples come to the same.
func TestCutsInSteps(t *testing.T) {
	r := rand.New(rand.NewSource(114))
	for range 500 {
		h := fewHead(r)
		base, first := 1+r.Intn(4), r.Intn(15)
		then := first + r.Intn(15)
		one, early := checkCut(t, h, base, first)
		two, late := checkCut(t, one, base, then)
		all, blocks := checkCut(t, h, base, then)
		if !same(two, all) || !same(slices.Concat(early, late), blocks) {
			t.Fatalf("%v, %d, %d, %d: %v, %v, %v, not %v, %v", h, base, first, then, two, early, late, all, blocks)
		}
		checkCompact(t, base, blocks)
	}
}

// timed is a head of the series a with samples at times.
func timed(times ...int) impl.Head {
	h := impl.Head{Window: 5, Limit: 9, Newest: maxTime}
	if len(times) > 0 {
		h.Series = []impl.Series{series("a")}
	}
	for i, at := range times {
		h.Series[0].Samples = append(h.Series[0].Samples, impl.Sample{Time: at, Value: i})
	}
	return h
}

func beginsOf(l []impl.Block) []int {
	var out []int
	for _, b := range l {
		out = append(out, b.From)
	}
	return out
}

func TestCutsAtTheEndsOfSpans(t *testing.T) {
	for _, c := range []struct {
		times  []int
		base   int
		before int
		want   []int
		left   int
	}{
		// Just at a span's end, one below it and one above it.
		{[]int{0, 9, 10, 19}, 10, 9, nil, 4}, {[]int{0, 9, 10, 19}, 10, 10, []int{0}, 2}, {[]int{0, 9, 10, 19}, 10, 11, []int{0}, 2},
		{[]int{0, 9, 10, 19}, 10, 19, []int{0}, 2}, {[]int{0, 9, 10, 19}, 10, 20, []int{0, 10}, 0}, {[]int{0, 9, 10, 19}, 10, 21, []int{0, 10}, 0},
		{[]int{0, 1, 2}, 1, 0, nil, 3}, {[]int{0, 1, 2}, 1, 1, []int{0}, 2}, {[]int{0, 1, 2}, 1, 2, []int{0, 1}, 1}, {[]int{0, 1, 2}, 1, 3, []int{0, 1, 2}, 0},
		// A sample in a span that is not over stays, though it lies before the time.
		{[]int{5, 15}, 10, 18, []int{0}, 1}, {[]int{15}, 10, 16, nil, 1}, {[]int{15}, 10, 19, nil, 1}, {[]int{19}, 10, 20, []int{10}, 0}, {[]int{10}, 10, 20, []int{10}, 0}, {[]int{20}, 10, 20, nil, 1},
		// Spans without samples between others.
		{[]int{3, 57, 58, 200}, 10, 300, []int{0, 50, 200}, 0}, {[]int{3, 57, 58, 200}, 10, 209, []int{0, 50}, 1}, {[]int{3, 57, 58, 200}, 7, 202, []int{0, 56}, 1}, {[]int{3, 57, 58, 200}, 7, 203, []int{0, 56, 196}, 0},
		// The greatest base, the last times.
		{[]int{999999, 1000000}, maxBase, 999999, nil, 2}, {[]int{999999, 1000000}, maxBase, 1000000, []int{0}, 1}, {[]int{999999, 1000000}, maxBase, 2000000, []int{0, 1000000}, 0},
		{[]int{maxTime - 1, maxTime}, 1, maxTime, []int{maxTime - 1}, 1}, {[]int{maxTime - 1, maxTime}, maxBase, maxTime, []int{maxTime - maxBase}, 1}, {[]int{maxTime - 1, maxTime}, 10, maxTime - 1, nil, 2}, {[]int{0, maxTime}, 7, maxTime, []int{0}, 1},
		// A head of which nothing is cut, one without series.
		{[]int{100, 200}, 10, 100, nil, 2}, {[]int{100, 200}, 10, 0, nil, 2}, {nil, 10, 100, nil, 0}, {nil, 10, 0, nil, 0},
	} {
		h := timed(c.times...)
		head, blocks := checkCut(t, h, c.base, c.before)
		left := 0
		for _, s := range head.Series {
			left += len(s.Samples)
		}
		if !slices.Equal(beginsOf(blocks), c.want) || left != c.left || head.Newest != maxTime || head.Window != 5 || head.Limit != 9 {
			t.Errorf("%v, %d, %d: %v, %v", c.times, c.base, c.before, head, blocks)
		}
		if c.left == 0 && len(head.Series) != 0 {
			t.Errorf("%v, %d, %d: %v is left", c.times, c.base, c.before, head.Series)
		}
	}
	// Series that lie in unlike spans: each block has just those with samples in it.
	h := impl.Head{Window: 9, Limit: 3, Newest: 40, Series: []impl.Series{
		series("a", impl.Sample{Time: 25, Value: 1}, impl.Sample{Time: 31, Value: 2}),
		series("b", impl.Sample{Time: 1, Value: 3}, impl.Sample{Time: 9, Value: 4}),
		series("c", impl.Sample{Time: 2, Value: 5}, impl.Sample{Time: 20, Value: 6}, impl.Sample{Time: 40, Value: 7}),
	}}
	head, blocks := checkCut(t, h, 10, 30)
	want := []impl.Block{
		{From: 0, To: 10, Level: 1, Series: []impl.Series{h.Series[1], series("c", impl.Sample{Time: 2, Value: 5})}},
		{From: 20, To: 30, Level: 1, Series: []impl.Series{series("a", impl.Sample{Time: 25, Value: 1}), series("c", impl.Sample{Time: 20, Value: 6})}},
	}
	left := impl.Head{Window: 9, Limit: 3, Newest: 40, Series: []impl.Series{series("a", impl.Sample{Time: 31, Value: 2}), series("c", impl.Sample{Time: 40, Value: 7})}}
	if !same(blocks, want) || !same(head, left) {
		t.Errorf("%v, %v", head, blocks)
	}
	if head, blocks := checkCut(t, h, 10, maxTime); len(head.Series) != 0 || len(blocks) != 4 || head.Newest != 40 || head.Limit != 3 {
		t.Errorf("all is cut: %v, %v", head, blocks)
	}
}

func TestCutsOfWrongArguments(t *testing.T) {
	h := timed(1, 2, 30)
	for _, n := range []int{0, -1, maxBase + 1, math.MinInt, math.MaxInt} {
		if head, blocks := checkCut(t, h, n, 20); !same(head, impl.Head{}) || len(blocks) > 0 {
			t.Errorf("base %d: %v, %v", n, head, blocks)
		}
	}
	for _, n := range []int{-1, -10, maxTime + 1, math.MinInt, math.MaxInt} {
		if head, blocks := checkCut(t, h, 10, n); !same(head, impl.Head{}) || len(blocks) > 0 {
			t.Errorf("before %d: %v, %v", n, head, blocks)
		}
	}
	for i, h := range badHeads() {
		for _, before := range []int{0, 20, maxTime} {
			if head, blocks := checkCut(t, h, 10, before); !same(head, impl.Head{}) || len(blocks) > 0 {
				t.Errorf("bad head %d: %v, %v", i, head, blocks)
			}
		}
	}
	if head, blocks := checkCut(t, impl.Head{}, 1, 0); !same(head, impl.Head{}) || len(blocks) > 0 {
		t.Errorf("%v, %v", head, blocks)
	}
}

// A head has MaxBlocks spans with samples, and one more; also where they are those of series that take turns.
func TestCutsAtMaxBlocks(t *testing.T) {
	for _, n := range []int{99, 100, 101, 102, 2000} {
		h := impl.Head{Limit: 9, Newest: maxTime, Series: []impl.Series{series("a", steadySamples(n, 5, 10, 7)...)}}
		head, blocks := checkCut(t, h, 10, 10*n)
		if n <= 100 && (len(blocks) != n || len(head.Series) > 0) || n > 100 && (len(blocks) > 0 || !same(head, impl.Head{})) {
			t.Errorf("%d spans: %d blocks, %s", n, len(blocks), shortly(head))
		}
		// The last ones stay in the head where they are not over.
		if _, blocks := checkCut(t, h, 10, min(1000, 10*n)); len(blocks) != min(n, 100) {
			t.Errorf("%d spans: %d blocks", n, len(blocks))
		}
		if _, blocks := checkCut(t, h, 10, 1009); len(blocks) != min(n, 100) {
			t.Errorf("%d spans: %d blocks", n, len(blocks))
		}
		odd := impl.Head{Limit: 9, Newest: maxTime, Series: []impl.Series{series("a", steadySamples((n+1)/2, 5, 20, 7)...), series("b", steadySamples(n/2, 15, 20, 8)...)}}
		if _, blocks := checkCut(t, odd, 10, maxTime); n <= 100 && len(blocks) != n || n > 100 && len(blocks) > 0 {
			t.Errorf("%d spans of two series: %d blocks", n, len(blocks))
		}
	}
	many := impl.Head{Limit: 200, Newest: maxTime, Series: manySeries(200)}
	if head, blocks := checkCut(t, many, 2, 200); len(blocks) != 100 || len(head.Series) > 0 {
		t.Errorf("%d blocks, %s", len(blocks), shortly(head))
	}
	if head, blocks := checkCut(t, many, 1, 101); len(blocks) > 0 || !same(head, impl.Head{}) {
		t.Errorf("%d blocks, %s", len(blocks), shortly(head))
	}
	if head, blocks := checkCut(t, many, 1, 100); len(blocks) != 100 || len(head.Series) != 100 {
		t.Errorf("%d blocks, %s", len(blocks), shortly(head))
	}
	full := impl.Head{Limit: 200, Newest: maxTime}
	for _, s := range manySeries(200) {
		full.Series = append(full.Series, impl.Series{Labels: s.Labels, Samples: steadySamples(2000, 3, 1, 7)})
	}
	if head, blocks := checkCut(t, full, 20, 2000); len(blocks) != 100 || len(head.Series) != 200 || len(head.Series[0].Samples) != 3 {
		t.Errorf("%d blocks, %d series", len(blocks), len(head.Series))
	}
}

func TestWidths(t *testing.T) {
	for _, c := range []struct{ base, level, want int }{
		{1, 1, 1}, {1, 2, 3}, {1, 3, 9}, {1, 4, 27}, {10, 1, 10}, {10, 2, 30}, {10, 3, 90}, {10, 4, 270}, {7, 3, 63},
		{maxBase, 1, maxBase}, {maxBase, 4, 27000000}, {maxBase - 1, 4, 26999973},
		{0, 1, 0}, {-1, 1, 0}, {maxBase + 1, 1, 0}, {maxBase + 1, 4, 0}, {math.MinInt, 2, 0}, {math.MaxInt, 2, 0},
		{10, 0, 0}, {10, -1, 0}, {10, 5, 0}, {10, 6, 0}, {1, 0, 0}, {1, 5, 0}, {maxBase, 0, 0}, {maxBase, 5, 0}, {10, math.MinInt, 0}, {10, math.MaxInt, 0}, {0, 0, 0}, {math.MaxInt, math.MaxInt, 0},
	} {
		if got := impl.WidthOf(c.base, c.level); got != c.want || got != widthModel(c.base, c.level) {
			t.Errorf("WidthOf(%d, %d) = %d", c.base, c.level, got)
		}
	}
	for _, n := range edgeInts() {
		for level := -1; level <= 6; level++ {
			if got := impl.WidthOf(n, level); got != widthModel(n, level) {
				t.Errorf("WidthOf(%d, %d) = %d", n, level, got)
			}
			if got := impl.WidthOf(level, n); got != widthModel(level, n) {
				t.Errorf("WidthOf(%d, %d) = %d", level, n, got)
			}
		}
	}
}

// goodShelves are shelves at the edges of what is one; by the base 10.
func goodShelves() [][]impl.Block {
	out := [][]impl.Block{
		nil, {}, shelfAt(1, 0), shelfAt(4, 0), shelfAt(1, 0, 1, 2), shelfAt(1, 3, 7), shelfAt(2, 0, 1), shelfAt(4, 1, 2, 9), shelfAt(1, upFrom(99, 0, 1)...), shelfAt(1, upFrom(100, 0, 1)...), shelfAt(1, upFrom(100, 5, 3)...),
		slices.Concat(shelfAt(1, 2), shelfAt(2, 1), shelfAt(3, 1)), slices.Concat(shelfAt(4, 0), shelfAt(3, 3), shelfAt(2, 12), shelfAt(1, 39)), slices.Concat(shelfAt(2, 0), shelfAt(1, 3)),
		{blockAt(10, 1, 0)}, {blockAt(10, 1, maxTime/10-1)}, {blockAt(10, 4, maxTime/270-1)}, {blockAt(10, 4, 0), blockAt(10, 4, maxTime/270-1)},
	}
	stoned := shelfAt(1, 0, 1)
	stoned[1] = deleteModel(stoned[1], nil, 10, 19)
	return append(out, stoned)
}

// badShelves are no shelves by the base 10, each in one way.
func badShelves() [][]impl.Block {
	out := [][]impl.Block{
		shelfAt(1, upFrom(101, 0, 1)...), shelfAt(1, upFrom(1000, 0, 1)...), make([]impl.Block, 1<<12),
		{blockAt(10, 1, maxTime/10)}, {blockAt(10, 4, maxTime/270)}, {{From: -10, To: 0, Level: 1}},
	}
	one := func(from int, to int, level int) impl.Block { return impl.Block{From: from, To: to, Level: level} }
	for _, b := range []impl.Block{
		one(0, 810, 5), one(0, 10, 5), one(0, 65610, 9), one(0, 10, 9), one(0, 10, 0), one(0, 3, 0), one(0, 10, -1), one(0, 10, math.MinInt), one(0, 10, math.MaxInt),
		one(1, 11, 1), one(9, 19, 1), one(11, 21, 1), one(5, 15, 1), one(10, 40, 2), one(20, 50, 2), one(29, 59, 2), one(31, 61, 2), one(30, 120, 3), one(60, 150, 3), one(90, 360, 4), one(180, 450, 4), one(3, 13, 1),
		one(10, 19, 1), one(10, 21, 1), one(10, 11, 1), one(10, 30, 1), one(10, 40, 1), one(30, 40, 2), one(30, 59, 2), one(30, 61, 2), one(0, 90, 2), one(0, 30, 3), one(0, 269, 4), one(0, 271, 4), one(0, 90, 4), one(0, 270, 3), one(10, 10, 1), one(10, 0, 1),
	} {
		out = append(out, []impl.Block{b}, append(shelfAt(4, 1000), b), append([]impl.Block{b}, shelfAt(4, 1000)...))
	}
	for _, l := range [][]impl.Block{
		shelfAt(1, 0, 0), shelfAt(1, 1, 0), shelfAt(1, 0, 2, 1), shelfAt(1, 0, 1, 1), shelfAt(1, 0, 1, 0), shelfAt(4, 1, 0),
		slices.Concat(shelfAt(2, 0), shelfAt(1, 2)), slices.Concat(shelfAt(1, 0), shelfAt(2, 0)), slices.Concat(shelfAt(2, 0), shelfAt(1, 0)), slices.Concat(shelfAt(1, 3), shelfAt(2, 1)), slices.Concat(shelfAt(1, 5), shelfAt(2, 1)), slices.Concat(shelfAt(4, 0), shelfAt(1, 26)), slices.Concat(shelfAt(3, 1), shelfAt(4, 0)), slices.Concat(shelfAt(1, 9), shelfAt(2, 0)),
	} {
		out = append(out, l)
	}
	for i, b := range badBlocks() {
		switch {
		case len(b.Series)+len(b.Stones) > 1000 || len(b.Series) > 0 && len(b.Series[0].Samples) > 10000:
			continue // what is very great is asked for by GoodBlock's own test
		case i%2 == 0:
			out = append(out, []impl.Block{b})
		default:
			out = append(out, slices.Concat(shelfAt(1, 0), []impl.Block{b}, shelfAt(4, 1000)))
		}
	}
	stone := shelfAt(1, 0)
	stone[0].Stones = []impl.Stone{{Labels: labelsOf("_name", "down"), From: 1, To: 2}}
	late := shelfAt(1, 0)
	late[0].Series[0].Samples[0].Time = 10
	return append(out, stone, late)
}

func TestShelvesThatAreGood(t *testing.T) {
	for i, l := range goodShelves() {
		if !checkShelf(t, 10, l) {
			t.Errorf("good shelf %d: %s", i, shortly(l))
		}
		checkAll(t, 10, l)
		for _, base := range []int{0, -1, 9, 11, 30, maxBase + 1, math.MinInt, math.MaxInt} {
			if checkShelf(t, base, l) && (len(l) > 0 || base < 1 || base > maxBase) {
				t.Errorf("good shelf %d, but by %d: %s", i, base, shortly(l))
			}
		}
	}
	for i, l := range badShelves() {
		if checkShelf(t, 10, l) {
			t.Errorf("bad shelf %d: %s", i, shortly(l))
		}
	}
	for _, base := range []int{1, 2, 9, maxBase - 1, maxBase} {
		for level := 1; level <= 4; level++ {
			l := []impl.Block{blockAt(base, level, 0), blockAt(base, level, 1), blockAt(base, level, 5)}
			if !checkShelf(t, base, l) || !checkShelf(t, base, nil) || checkShelf(t, base+1, l) {
				t.Errorf("base %d, level %d", base, level)
			}
		}
	}
	// The last block that times have room for, and one that ends just behind them.
	if l := []impl.Block{{From: maxTime, To: maxTime + 1, Level: 1}}; !checkShelf(t, 1, l) {
		t.Error("the last time alone")
	}
	if l := []impl.Block{{From: maxTime - 1, To: maxTime + 2, Level: 2}}; checkShelf(t, 1, l) {
		t.Error("beyond the last time")
	}
	r := rand.New(rand.NewSource(115))
	good, bad := 0, 0
	for range 1500 {
		base, l := fewShelf(r)
		if len(l) == 0 {
			continue
		}
		l = laid(l, 0)
		switch i := r.Intn(len(l)); r.Intn(5) {
		case 0:
			changeBlock(r, &l[i])
		case 1:
			l[i], l[0] = l[0], l[i]
		case 2:
			base = max(1, base+r.Intn(3)-1)
		case 3:
			l = slices.Delete(l, i, i+1)
		default:
			l = append(l, l[i])
		}
		if checkShelf(t, base, l) {
			good++
		} else {
			bad++
		}
	}
	if good < 250 || bad < 250 {
		t.Errorf("%d good, %d bad", good, bad)
	}
}

// What is no shelf has the zero answer everywhere.
func TestWhatIsNoShelf(t *testing.T) {
	zero := func(name string, base int, l []impl.Block) {
		t.Helper()
		none := len(checkPlan(t, base, l)) + len(checkCompact(t, base, l)) + len(checkRetain(t, base, l, -5)) + len(checkSelectBlocks(t, base, l, nil, 0, maxTime)) + len(checkDeleteBlocks(t, base, l, nil, 1, 2))
		if merged := checkMergeBlocks(t, base, l); none > 0 || !same(merged, impl.Block{}) {
			t.Errorf("%s, %d: %s", name, base, shortly(l))
		}
	}
	for i, l := range badShelves() {
		zero(fmt.Sprint("bad shelf ", i), 10, l)
	}
	for i, l := range goodShelves() {
		for _, base := range []int{0, -1, maxBase + 1, math.MinInt, math.MaxInt} {
			zero(fmt.Sprint("good shelf ", i), base, l)
		}
		if len(l) > 0 {
			zero(fmt.Sprint("good shelf ", i), 9, l)
			zero(fmt.Sprint("good shelf ", i), 20, l)
		}
	}
}

// fullSeries is the series up with n samples in a block.
func fullSeries(b impl.Block, n int) impl.Block {
	b.Series = []impl.Series{series("up", steadySamples(n, b.From, 1, 7)...)}
	return b
}

func TestPlans(t *testing.T) {
	for _, c := range []struct {
		name string
		l    []impl.Block
		want []int
	}{
		{"none", nil, nil}, {"one", shelfAt(1, 0), nil}, {"a whole span and nothing behind", shelfAt(1, 0, 1, 2), nil},
		// A span is over where another block begins at its very end, or behind.
		{"one at the very end", shelfAt(1, 0, 1, 2, 3), []int{0, 1, 2}}, {"one behind the end", shelfAt(1, 0, 1, 2, 4), []int{0, 1, 2}}, {"one far behind", shelfAt(1, 0, 1, 2, 400), []int{0, 1, 2}}, {"a greater one at the very end", slices.Concat(shelfAt(1, 0, 1, 2), shelfAt(2, 1)), []int{0, 1, 2}},
		{"one in it", shelfAt(1, 0, 2), nil}, {"the last one ends at the end", shelfAt(1, 2), nil}, {"one in it, one at its end", shelfAt(1, 2, 3), []int{0}},
		// Too few to fill the span.
		{"the first alone", shelfAt(1, 0, 3), []int{0}}, {"the middle one", shelfAt(1, 1, 3), []int{0}}, {"two of three", shelfAt(1, 0, 2, 3), []int{0, 1}}, {"two others", shelfAt(1, 1, 2, 7), []int{0, 1}},
		// The first span counts.
		{"two spans", shelfAt(1, 0, 1, 4, 5, 6), []int{0, 1}}, {"spans apart", shelfAt(1, 30, 31, 34, 35, 66), []int{0, 1}}, {"behind one that is done", slices.Concat(shelfAt(2, 0), shelfAt(1, 3, 4, 6)), []int{1, 2}}, {"behind two that are done", slices.Concat(shelfAt(2, 0, 1), shelfAt(1, 7, 9)), []int{2}},
		// The first level counts, though a later span is meant.
		{"the first level ahead", slices.Concat(shelfAt(2, 0, 1, 2), shelfAt(1, 9, 12)), []int{3}}, {"then the next", slices.Concat(shelfAt(2, 0, 1, 2), shelfAt(1, 9)), []int{0, 1, 2}}, {"and the next", slices.Concat(shelfAt(3, 0, 1, 2), shelfAt(1, 27)), []int{0, 1, 2}}, {"of level 3 and 2", slices.Concat(shelfAt(3, 0, 1, 2), shelfAt(2, 9), shelfAt(3, 4)), []int{3}},
		// Levels that are not over.
		{"level 2 not over", shelfAt(2, 0, 1, 2), nil}, {"level 2 over", shelfAt(2, 0, 1, 2, 3), []int{0, 1, 2}}, {"level 3 not over", shelfAt(3, 0, 1, 2), nil}, {"level 3 over", shelfAt(3, 0, 1, 2, 3), []int{0, 1, 2}}, {"two of level 3", shelfAt(3, 1, 5), []int{0}}, {"level 2 in its span", shelfAt(2, 0, 2), nil},
		// Blocks of lower levels lie in a span with one of the level below.
		{"level 1 and 2 in a span of level 3", slices.Concat(shelfAt(2, 0), shelfAt(1, 8), shelfAt(3, 1)), []int{1}}, {"merged then", slices.Concat(shelfAt(2, 0, 2), shelfAt(3, 1)), []int{0, 1}},
		// Blocks of the top level, or of the span's own level, stay.
		{"the top", shelfAt(4, 0, 1, 2, 3), nil}, {"the top and one behind", slices.Concat(shelfAt(4, 0), shelfAt(1, 27)), nil}, {"of its own level", slices.Concat(shelfAt(3, 0), shelfAt(4, 1)), []int{0}}, {"just of its own level", slices.Concat(shelfAt(2, 0), shelfAt(1, 3)), nil}, {"blocks of level 1 alone in a span of level 3", shelfAt(1, 8, 9), []int{0}},
	} {
		if !checkShelf(t, 10, c.l) {
			t.Errorf("%s: no shelf", c.name)
		}
		if got := checkPlan(t, 10, c.l); !slices.Equal(got, c.want) {
			t.Errorf("%s: %v", c.name, got)
		}
		checkCompact(t, 10, c.l)
	}
	for _, base := range []int{1, maxBase} {
		l := []impl.Block{blockAt(base, 1, 4), blockAt(base, 1, 6)}
		if got := checkPlan(t, base, l); !slices.Equal(got, []int{0}) {
			t.Errorf("base %d: %v", base, got)
		}
	}
	// The last times: no block can begin behind the span.
	last := []impl.Block{blockAt(1, 1, maxTime-1), blockAt(1, 1, maxTime)}
	if got := checkPlan(t, 1, last); len(got) > 0 || !checkShelf(t, 1, last) {
		t.Errorf("the last times: %v", got)
	}
	if got := checkPlan(t, 1, []impl.Block{blockAt(1, 1, maxTime-2), blockAt(1, 1, maxTime)}); !slices.Equal(got, []int{0}) {
		t.Errorf("the last times: %v", got)
	}
}

// A span that has no good merged block is left as it is, and the next one is taken.
func TestPlansOfSpansThatCanNotBeMerged(t *testing.T) {
	tight := []impl.Block{fullSeries(blockAt(1000, 1, 0), 1000), fullSeries(blockAt(1000, 1, 1), 1000), blockAt(1000, 1, 2)}
	for _, c := range []struct {
		name   string
		last   int
		behind []impl.Block
		want   []int
		levels []int
	}{
		{"just MaxSamples", 0, []impl.Block{blockAt(1000, 1, 3)}, []int{0, 1, 2}, []int{2, 1}},
		{"one too many", 1, []impl.Block{blockAt(1000, 1, 3)}, nil, []int{1, 1, 1, 1}},
		{"one too many, then another span", 1, []impl.Block{blockAt(1000, 1, 3), blockAt(1000, 1, 6)}, []int{3}, []int{1, 1, 1, 2, 1}},
		{"one too many, then a span of the next level", 1, []impl.Block{blockAt(1000, 2, 3), blockAt(1000, 2, 6)}, []int{3}, []int{1, 1, 1, 3, 2}},
		{"one too many in a span of the next level, too", 1, []impl.Block{blockAt(1000, 1, 3), blockAt(1000, 3, 1), blockAt(1000, 1, 27)}, []int{3}, []int{1, 1, 1, 2, 3, 1}},
		{"in the next level with room", 0, []impl.Block{blockAt(1000, 1, 3), blockAt(1000, 3, 1), blockAt(1000, 1, 27)}, []int{0, 1, 2}, []int{4, 1}},
	} {
		l := slices.Clone(tight)
		if c.last > 0 {
			l[2] = fullSeries(l[2], c.last)
		}
		l = append(l, c.behind...)
		if got := checkPlan(t, 1000, l); !slices.Equal(got, c.want) {
			t.Errorf("%s: %v", c.name, got)
		}
		var levels []int
		for _, b := range checkCompact(t, 1000, l) {
			levels = append(levels, b.Level)
		}
		if !slices.Equal(levels, c.levels) {
			t.Errorf("%s: levels %v", c.name, levels)
		}
	}
	// With a stone over one sample there is room again.
	l := append(slices.Clone(tight[:2]), fullSeries(blockAt(1000, 1, 2), 1), blockAt(1000, 1, 3))
	l[0] = deleteModel(l[0], nil, 5, 5)
	if got := checkPlan(t, 1000, l); len(got) != 3 {
		t.Errorf("with a stone: %v", got)
	}
	if got := checkCompact(t, 1000, l); len(got) != 2 || len(got[0].Series[0].Samples) != 2000 {
		t.Errorf("with a stone: %d blocks", len(got))
	}
}

// halves are two blocks of a span with n series together, the names of a taking turns with those of b.
func halves(n int) []impl.Block {
	a, b := blockAt(1000, 1, 0), blockAt(1000, 1, 1)
	for i, s := range manySeries(n) {
		if i%2 == 0 {
			a.Series = append(a.Series, s)
			continue
		}
		s.Samples[0].Time += 1000
		b.Series = append(b.Series, s)
	}
	return []impl.Block{a, b}
}

func TestMergedBlocks(t *testing.T) {
	up := func(times ...int) impl.Series {
		s := series("up")
		for _, at := range times {
			s.Samples = append(s.Samples, impl.Sample{Time: at, Value: at + 100})
		}
		return s
	}
	job := func(times ...int) impl.Series {
		s := up(times...)
		s.Labels = labelsOf("_name", "up", "job", "x")
		return s
	}
	with := func(b impl.Block, l ...impl.Series) impl.Block {
		b.Series = l
		return b
	}
	a, b, c := with(blockAt(10, 1, 0), up(1, 9)), with(blockAt(10, 1, 1), up(10), job(11, 19)), with(blockAt(10, 1, 2), job(20, 29))
	covered := deleteModel(b, exactly(job().Labels), 0, 100)
	for _, x := range []struct {
		name string
		l    []impl.Block
		want impl.Block
	}{
		{"none", nil, impl.Block{}},
		{"one", []impl.Block{b}, with(blockAt(10, 2, 0), up(10), job(11, 19))},
		{"three", []impl.Block{a, b, c}, with(blockAt(10, 2, 0), up(1, 9, 10), job(11, 19, 20, 29))},
		{"the outer two", []impl.Block{a, c}, with(blockAt(10, 2, 0), up(1, 9), job(20, 29))},
		{"two", []impl.Block{b, c}, with(blockAt(10, 2, 0), up(10), job(11, 19, 20, 29))},
		{"one without series", []impl.Block{blockAt(10, 1, 2)}, blockAt(10, 2, 0)},
		{"of two spans", append(shelfAt(1, 2), shelfAt(1, 3)...), impl.Block{}},
		{"of two spans, far apart", shelfAt(1, 0, 300), impl.Block{}},
		{"of two spans, the last one ahead", []impl.Block{c, with(blockAt(10, 1, 3))}, impl.Block{}},
		{"of levels 1 and 2", []impl.Block{a, with(blockAt(10, 2, 1), up(33))}, with(blockAt(10, 3, 0), up(1, 9, 33))},
		{"of levels 2 and 1", []impl.Block{with(blockAt(10, 2, 1), up(33)), with(blockAt(10, 1, 8), up(89))}, with(blockAt(10, 3, 0), up(33, 89))},
		{"of levels 2 and 1, one span too far", []impl.Block{with(blockAt(10, 2, 1), up(33)), with(blockAt(10, 1, 9), up(90))}, impl.Block{}},
		{"of levels 1, 2 and 3", []impl.Block{c, with(blockAt(10, 2, 1)), with(blockAt(10, 3, 2), up(269))}, with(blockAt(10, 4, 0), up(269), job(20, 29))},
		{"of level 3", []impl.Block{with(blockAt(10, 3, 5), up(500))}, with(blockAt(10, 4, 1), up(500))},
		{"of level 4", shelfAt(4, 0), impl.Block{}},
		{"of level 4 and others", slices.Concat(shelfAt(4, 0), shelfAt(1, 27)), impl.Block{}},
		{"of others and level 4", slices.Concat(shelfAt(1, 26), shelfAt(4, 1)), impl.Block{}},
		{"with a series all covered", []impl.Block{covered}, with(blockAt(10, 2, 0), up(10))},
		{"with a series covered in one of them", []impl.Block{a, covered, c}, with(blockAt(10, 2, 0), up(1, 9, 10), job(20, 29))},
		{"with all covered", []impl.Block{deleteModel(a, nil, 0, 100), deleteModel(b, nil, 0, 100)}, blockAt(10, 2, 0)},
		{"with some samples covered", []impl.Block{deleteModel(a, nil, 2, 9), deleteModel(b, nil, 10, 11)}, with(blockAt(10, 2, 0), up(1), job(19))},
		{"in a later span", []impl.Block{with(blockAt(10, 1, 4), up(40)), with(blockAt(10, 1, 5), up(50))}, with(blockAt(10, 2, 1), up(40, 50))},
	} {
		if got := checkMergeBlocks(t, 10, x.l); !same(got, x.want) {
			t.Errorf("%s: %s", x.name, shortly(got))
		}
	}
	// A span that ends behind the last time is no block's.
	for k, want := range map[int]bool{maxTime - 1: false, maxTime: false, maxTime - 2: true, maxTime - 4: true} {
		if got := checkMergeBlocks(t, 1, []impl.Block{blockAt(1, 1, k)}); goodBlockModel(got) != want {
			t.Errorf("at %d: %v", k, got)
		}
	}
	for _, n := range []int{2, 3, 199, 200, 201, 202, 400} {
		got := checkMergeBlocks(t, 1000, halves(n))
		if n <= 200 && len(got.Series) != n || n > 200 && !same(got, impl.Block{}) {
			t.Errorf("%d series: %d", n, len(got.Series))
		}
		all := checkSelectBlocks(t, 1000, halves(n), nil, 0, maxTime)
		if n <= 200 && len(all) != n || n > 200 && len(all) > 0 {
			t.Errorf("%d series: %d selected", n, len(all))
		}
	}
}

// Blocks with a full series each: together they have MaxSamples, or one more.
func TestMergedBlocksAtMaxSamples(t *testing.T) {
	for _, c := range []struct{ a, b, c int }{{1000, 1000, 0}, {1000, 1000, 1}, {1000, 999, 1}, {667, 667, 666}, {667, 667, 667}, {2000, 0, 0}, {2000, 0, 1}, {2000, 2000, 2000}} {
		var l []impl.Block
		for k, n := range []int{c.a, c.b, c.c} {
			b := blockAt(2000, 1, k)
			if n > 0 {
				b = fullSeries(b, n)
			}
			b.Series = append(b.Series, series("xx", impl.Sample{Time: b.From}))
			l = append(l, b)
		}
		got, said := checkMergeBlocks(t, 2000, l), checkSelectBlocks(t, 2000, l, nil, 0, maxTime)
		if n := c.a + c.b + c.c; n <= 2000 && (len(got.Series) != 2 || len(got.Series[0].Samples) != n || len(said) != 2) || n > 2000 && (!same(got, impl.Block{}) || len(said) > 0) {
			t.Errorf("%v: %s, %s", c, shortly(got), shortly(said))
		}
		// What is asked of it in parts is said.
		if said := checkSelectBlocks(t, 2000, l, nil, 0, 1999); len(said) != 2 || len(said[0].Samples) != c.a {
			t.Errorf("%v: %s", c, shortly(said))
		}
		if said := checkSelectBlocks(t, 2000, l, exactly(labelsOf("_name", "xx")), 0, 5999); len(said) != 1 || len(said[0].Samples) != 3 {
			t.Errorf("%v: %s", c, shortly(said))
		}
	}
}

// Any blocks of a shelf, in order, are merged as the model says, and series of many blocks come in their order.
func TestMergedBlocksAtRandom(t *testing.T) {
	r := rand.New(rand.NewSource(116))
	good, bad := 0, 0
	for range 2000 {
		base, l := fewShelf(r)
		if len(l) == 0 {
			continue
		}
		first := r.Intn(len(l))
		got := checkMergeBlocks(t, base, l[first:first+1+r.Intn(min(4, len(l)-first))])
		if goodBlockModel(got) {
			good++
		} else {
			bad++
		}
	}
	if good < 300 || bad < 300 {
		t.Errorf("%d good, %d bad", good, bad)
	}
}

func levelsOf(l []impl.Block) [][2]int {
	var out [][2]int
	for _, b := range l {
		out = append(out, [2]int{b.From, b.Level})
	}
	return out
}

func TestCompactAll(t *testing.T) {
	for _, c := range []struct {
		name string
		l    []impl.Block
		want [][2]int
	}{
		{"nothing", nil, nil}, {"one", shelfAt(1, 5), [][2]int{{50, 1}}}, {"nothing to do", shelfAt(1, 0, 1, 2), [][2]int{{0, 1}, {10, 1}, {20, 1}}},
		{"one step", shelfAt(1, 0, 1, 2, 3), [][2]int{{0, 2}, {30, 1}}}, {"two steps", shelfAt(1, 0, 1, 2, 3, 4, 5, 6), [][2]int{{0, 2}, {30, 2}, {60, 1}}},
		{"nine and one", shelfAt(1, upFrom(10, 0, 1)...), [][2]int{{0, 3}, {90, 1}}}, {"nine", shelfAt(1, upFrom(9, 0, 1)...), [][2]int{{0, 2}, {30, 2}, {60, 1}, {70, 1}, {80, 1}}},
		{"27 and one", shelfAt(1, upFrom(28, 0, 1)...), [][2]int{{0, 4}, {270, 1}}}, {"27", shelfAt(1, upFrom(27, 0, 1)...), [][2]int{{0, 3}, {90, 3}, {180, 2}, {210, 2}, {240, 1}, {250, 1}, {260, 1}}},
		{"100", shelfAt(1, upFrom(100, 0, 1)...), [][2]int{{0, 4}, {270, 4}, {540, 4}, {810, 3}, {900, 3}, {990, 1}}},
		{"far apart", shelfAt(1, 0, 1000), [][2]int{{0, 4}, {10000, 1}}}, {"from the middle on", shelfAt(1, 26, 27), [][2]int{{0, 4}, {270, 1}}}, {"from the end of a third on", shelfAt(1, 8, 9, 10), [][2]int{{0, 3}, {90, 1}, {100, 1}}},
		{"the top stays", slices.Concat(shelfAt(4, 0, 1, 2), shelfAt(1, 81)), [][2]int{{0, 4}, {270, 4}, {540, 4}, {810, 1}}}, {"level 3 and more", slices.Concat(shelfAt(3, 0), shelfAt(1, 26, 27)), [][2]int{{0, 4}, {270, 1}}},
	} {
		got := checkCompact(t, 10, c.l)
		if !slices.Equal(levelsOf(got), c.want) {
			t.Errorf("%s: %v", c.name, levelsOf(got))
		}
		if p := checkPlan(t, 10, got); len(p) > 0 {
			t.Errorf("%s: then %v", c.name, p)
		}
		if was, is := checkSelectBlocks(t, 10, c.l, nil, 0, maxTime), checkSelectBlocks(t, 10, got, nil, 0, maxTime); !same(was, is) {
			t.Errorf("%s: %v, not %v", c.name, is, was)
		}
	}
	// Stones stay with the blocks that are not compacted, and go with those that are.
	l := checkDeleteBlocks(t, 10, shelfAt(1, 0, 1, 2, 3), nil, 20, 35)
	got := checkCompact(t, 10, l)
	if len(got) != 2 || len(got[0].Stones) != 0 || len(got[0].Series[0].Samples) != 2 || len(got[1].Stones) != 1 || len(got[1].Series[0].Samples) != 1 {
		t.Errorf("%v", got)
	}
	// The greatest base, and the least.
	for _, base := range []int{1, maxBase} {
		l := []impl.Block{blockAt(base, 1, 0), blockAt(base, 1, 1), blockAt(base, 1, 2), blockAt(base, 1, 3)}
		if got := checkCompact(t, base, l); len(got) != 2 || got[0].To != 3*base {
			t.Errorf("base %d: %v", base, got)
		}
	}
}

func TestRetainedBlocks(t *testing.T) {
	l := slices.Concat(shelfAt(1, 0, 1), shelfAt(2, 1), shelfAt(1, 8))
	for _, c := range []struct{ from, want int }{
		{math.MinInt, 4}, {-1, 4}, {0, 4}, {9, 4}, {10, 3}, {11, 3}, {19, 3}, {20, 2}, {21, 2}, {30, 2}, {59, 2}, {60, 1}, {61, 1}, {80, 1}, {89, 1}, {90, 0}, {91, 0}, {maxTime, 0}, {math.MaxInt, 0},
	} {
		got := checkRetain(t, 10, l, c.from)
		if len(got) != c.want || !same(got, l[4-c.want:]) {
			t.Errorf("from %d: %v", c.from, got)
		}
	}
	if got := checkRetain(t, 10, nil, 5); len(got) > 0 {
		t.Errorf("%v", got)
	}
	last := []impl.Block{blockAt(1, 1, maxTime)}
	if a, b := checkRetain(t, 1, last, maxTime), checkRetain(t, 1, last, maxTime+1); len(a) != 1 || len(b) > 0 {
		t.Errorf("%v, %v", a, b)
	}
	r := rand.New(rand.NewSource(117))
	for range 500 {
		base, l := fewShelf(r)
		times := shelfTimes(l)
		checkRetain(t, base, l, times[r.Intn(len(times))])
	}
}

func TestSelectBlocks(t *testing.T) {
	l := slices.Concat(shelfAt(1, 0, 1), shelfAt(2, 1))
	l[1].Series = append(l[1].Series, series("x", impl.Sample{Time: 19, Value: 5}))
	for _, c := range []struct {
		m        []impl.Matcher
		from, to int
		want     []int
	}{
		{nil, 0, maxTime, []int{3, 1}}, {nil, math.MinInt, math.MaxInt, []int{3, 1}}, {nil, 0, 0, []int{1}}, {nil, 1, 9, nil}, {nil, 10, 18, []int{1}}, {nil, 10, 19, []int{1, 1}}, {nil, 19, 30, []int{1, 1}}, {nil, 19, 29, []int{1}},
		{nil, 31, maxTime, nil}, {nil, 30, 0, nil}, {nil, 1, 0, nil}, {nil, math.MaxInt, math.MinInt, nil},
		{exactly(labelsOf("_name", "x")), 0, maxTime, []int{1}}, {exactly(labelsOf("_name", "up")), 0, maxTime, []int{3}}, {exactly(labelsOf("_name", "y")), 0, maxTime, nil},
	} {
		var counts []int
		for _, s := range checkSelectBlocks(t, 10, l, c.m, c.from, c.to) {
			counts = append(counts, len(s.Samples))
		}
		if !slices.Equal(counts, c.want) {
			t.Errorf("%v, %d..%d: %v", c.m, c.from, c.to, counts)
		}
	}
	for i, m := range append(badMatchers(), manyMatchers(11)) {
		if got := checkSelectBlocks(t, 10, l, m, 0, maxTime); len(got) > 0 {
			t.Errorf("bad matchers %d: %v", i, got)
		}
		if got := checkSelectBlocks(t, 10, nil, m, 0, maxTime); len(got) > 0 {
			t.Errorf("bad matchers %d of nothing: %v", i, got)
		}
	}
	if got := checkSelectBlocks(t, 10, l, manyMatchers(10)[:1], 0, maxTime); len(got) != 2 {
		t.Errorf("%v", got)
	}
	checkSelectBlocks(t, 10, l, manyMatchers(10), 0, maxTime)
}

// 100 blocks, of each of which the series are others, and the same ones: what would be too much is not said, its parts are.
func TestSelectBlocksOfMany(t *testing.T) {
	for _, n := range []int{2, 3} {
		var l []impl.Block
		for k := range 100 {
			b := blockAt(1000, 1, k)
			for _, s := range manySeries(n) {
				s.Samples[0].Time += b.From
				s.Labels = append(s.Labels, impl.Label{Name: "k", Value: strings.Repeat("k", k+1)})
				b.Series = append(b.Series, s)
			}
			l = append(l, b)
		}
		if got := checkSelectBlocks(t, 1000, l, nil, 0, maxTime); n == 2 && len(got) != 200 || n == 3 && len(got) > 0 {
			t.Errorf("%d series in each: %d", n, len(got))
		}
		if got := checkSelectBlocks(t, 1000, l, nil, 0, 65999); len(got) != 66*n {
			t.Errorf("%d series in each: %d", n, len(got))
		}
		if got := checkSelectBlocks(t, 1000, l, exactly(labelsOf("_name", "s1001")), 0, maxTime); len(got) != 100 {
			t.Errorf("%d series in each: %d", n, len(got))
		}
	}
	for _, n := range []int{20, 21} {
		var l []impl.Block
		for k := range 100 {
			l = append(l, fullSeries(blockAt(30, 1, k), n))
		}
		got := checkSelectBlocks(t, 30, l, nil, 0, maxTime)
		if n == 20 && (len(got) != 1 || len(got[0].Samples) != 2000) || n == 21 && len(got) > 0 {
			t.Errorf("%d samples in each: %s", n, shortly(got))
		}
		checkCompact(t, 30, l)
	}
}

func TestDeleteBlocks(t *testing.T) {
	l := shelfAt(1, 0, 1, 2, 3)
	for _, c := range []struct {
		from, to int
		want     []int
	}{
		{0, 39, []int{1, 1, 1, 1}}, {math.MinInt, math.MaxInt, []int{1, 1, 1, 1}}, {10, 19, []int{0, 1, 0, 0}}, {9, 20, []int{1, 1, 1, 0}}, {9, 9, []int{1, 0, 0, 0}}, {20, 20, []int{0, 0, 1, 0}}, {15, 34, []int{0, 1, 1, 1}},
		{40, 50, []int{0, 0, 0, 0}}, {-5, -1, []int{0, 0, 0, 0}}, {20, 19, []int{0, 0, 0, 0}}, {39, 0, []int{0, 0, 0, 0}},
	} {
		var counts []int
		got := checkDeleteBlocks(t, 10, l, nil, c.from, c.to)
		for _, b := range got {
			counts = append(counts, len(b.Stones))
		}
		if !slices.Equal(counts, c.want) {
			t.Errorf("%d..%d: %v", c.from, c.to, counts)
		}
		if got := checkDeleteBlocks(t, 10, l, exactly(labelsOf("_name", "down")), c.from, c.to); !same(got, l) {
			t.Errorf("%d..%d of none: %v", c.from, c.to, got)
		}
		// What is deleted is gone, and nothing else, also where it is compacted then.
		left := selectModel(checkSelectBlocks(t, 10, l, nil, 0, maxTime), nil, math.MinInt, math.MaxInt)
		for i := range left {
			left[i].Samples = slices.DeleteFunc(left[i].Samples, func(s impl.Sample) bool { return s.Time >= c.from && s.Time <= c.to })
		}
		left = slices.DeleteFunc(left, func(s impl.Series) bool { return len(s.Samples) == 0 })
		for _, shelf := range [][]impl.Block{got, checkCompact(t, 10, got)} {
			if said := checkSelectBlocks(t, 10, shelf, nil, 0, maxTime); !same(said, left) {
				t.Errorf("%d..%d: %v, not %v", c.from, c.to, said, left)
			}
		}
	}
	for i, m := range append(badMatchers(), manyMatchers(11)) {
		if got := checkDeleteBlocks(t, 10, l, m, 0, 5); len(got) > 0 {
			t.Errorf("bad matchers %d: %v", i, got)
		}
		if got := checkDeleteBlocks(t, 10, nil, m, 0, 5); len(got) > 0 {
			t.Errorf("bad matchers %d of nothing: %v", i, got)
		}
	}
	// One block that would have too many stones leaves none of them.
	full, short := manyStones(100), manyStones(99)
	for i, b := range []*impl.Block{&full, &short} {
		b.Level = 1
		shelf := []impl.Block{*b, blockAt(10000, 1, 1, series("a", impl.Sample{Time: 10000})), blockAt(10000, 1, 2)}
		got := checkDeleteBlocks(t, 10000, shelf, nil, 9000, 10000)
		if i == 0 && len(got) > 0 || i == 1 && (len(got) != 3 || len(got[0].Stones) != 100 || len(got[1].Stones) != 1) {
			t.Errorf("%d stones: %s", len(b.Stones), shortly(got))
		}
		if got := checkDeleteBlocks(t, 10000, shelf, nil, 10000, 10000); len(got) != 3 || len(got[0].Stones) != len(b.Stones) {
			t.Errorf("%d stones and one beside: %s", len(b.Stones), shortly(got))
		}
		moved := []impl.Block{blockAt(10000, 1, 0), *b}
		moved[1].From, moved[1].To = 10000, 20000
		moved[1].Series = []impl.Series{series("a", steadySamples(100, 10000, 1, 3)...)}
		moved[1].Stones = nil
		for _, s := range b.Stones {
			moved[1].Stones = append(moved[1].Stones, impl.Stone{Labels: s.Labels, From: s.From + 10000, To: s.To + 10000})
		}
		if got := checkDeleteBlocks(t, 10000, moved, nil, 19000, 19000); i == 0 && len(got) > 0 || i == 1 && len(got) != 2 {
			t.Errorf("%d stones in the last: %s", len(b.Stones), shortly(got))
		}
	}
	r := rand.New(rand.NewSource(118))
	for range 800 {
		base, l := fewShelf(r)
		times := shelfTimes(l)
		checkDeleteBlocks(t, base, l, blockMatchers(r), times[r.Intn(len(times))], times[r.Intn(len(times))])
	}
}

// Answers are new memory: what is written into one shows in no other, and in no argument.
func TestAnswersOfShelvesAreNew(t *testing.T) {
	r := rand.New(rand.NewSource(119))
	for range 200 {
		base, l := fewShelf(r)
		m, h := blockMatchers(r), fewHead(r)
		shelfWas, headWas, matchersWere := laid(l, 0), laid(h, 0), slices.Clone(m)
		head, blocks := impl.CutHead(h, 3, 12)
		for _, x := range [][]impl.Block{blocks, impl.CompactAll(base, l), impl.RetainBlocks(base, l, 0), impl.RetainBlocks(base, l, 5), impl.DeleteBlocks(base, l, m, 0, 20), impl.DeleteBlocks(base, l, nil, 3, 2), {impl.MergeBlocks(base, l)}, {{Series: head.Series}}, {{Series: impl.SelectBlocks(base, l, m, 0, maxTime)}}} {
			for _, b := range x {
				scribbleBlock(b)
			}
			clear(x[:cap(x)])
		}
		p := impl.PlanOf(base, l)
		clear(p[:cap(p)])
		if !same(l, shelfWas) || !same(h, headWas) || !slices.Equal(m, matchersWere) {
			t.Fatal("an argument was written into")
		}
		checkAll(t, base, l)
	}
}
