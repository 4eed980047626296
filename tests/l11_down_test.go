package tests

import (
	"math"
	"math/big"
	"math/rand"
	"slices"
	"testing"

	"loop.example/g00039/impl"
)

const maxRes = 1000000

// overs are all that can be asked of a span.
var overs = []int{impl.OverCount, impl.OverSum, impl.OverMin, impl.OverMax, impl.OverAvg, impl.OverRise, impl.OverFirst, impl.OverLast}

// allOvers are these and some that are none.
var allOvers = append([]int{0, 9, -1, math.MinInt, math.MaxInt}, overs...)

// windowModel goes up to the end of the window that has a time.
func windowModel(time int, res int) int {
	if time == 0 {
		return 0
	}
	return ((time-1)/res + 1) * res
}

func riseModel(values []int) int {
	rise := 0
	for i := 1; i < len(values); i++ {
		rise += values[i]
		if values[i] >= values[i-1] {
			rise -= values[i-1]
		}
	}
	return rise
}

// aggModel is what values, one at least, say together.
func aggModel(time int, values []int) impl.Agg {
	sum := 0
	for _, v := range values {
		sum += v
	}
	return impl.Agg{Time: time, Count: len(values), Sum: sum, Min: slices.Min(values), Max: slices.Max(values), First: values[0], Last: values[len(values)-1], Rise: riseModel(values)}
}

// liveValues are the values of samples above from and not above to that are no marks.
func liveValues(l []impl.Sample, from int, to int) []int {
	var out []int
	for _, s := range l {
		if s.Time > from && s.Time <= to && s.Value != math.MinInt {
			out = append(out, s.Value)
		}
	}
	return out
}

func downSamplesModel(l []impl.Sample, res int) []impl.Agg {
	if !goodSamplesModel(l) || res < 1 || res > maxRes {
		return nil
	}
	values := map[int][]int{}
	var times []int
	for _, s := range l {
		at := windowModel(s.Time, res)
		if s.Value == math.MinInt {
			continue
		}
		if values[at] == nil {
			times = append(times, at)
		}
		values[at] = append(values[at], s.Value)
	}
	var out []impl.Agg
	for _, at := range times {
		out = append(out, aggModel(at, values[at]))
	}
	return out
}

func goodAggsModel(l []impl.Agg, res int) bool {
	if res < 1 || res > maxRes || len(l) > 2000 {
		return false
	}
	for i, a := range l {
		switch {
		case a.Time < 0, a.Time > 1000001000000, a.Time%res != 0, i > 0 && a.Time <= l[i-1].Time:
			return false
		case a.Count < 1, a.Count > 2000, a.First < a.Min, a.First > a.Max, a.Last < a.Min, a.Last > a.Max:
			return false
		}
	}
	return true
}

func mergeAggModel(a impl.Agg, b impl.Agg) impl.Agg {
	out := impl.Agg{Time: b.Time, Count: a.Count + b.Count, Sum: a.Sum + b.Sum, Min: a.Min, Max: a.Max, First: a.First, Last: b.Last, Rise: a.Rise + b.Rise + riseModel([]int{a.Last, b.First})}
	if b.Min < out.Min {
		out.Min = b.Min
	}
	if b.Max > out.Max {
		out.Max = b.Max
	}
	return out
}

// mergeAllModel merges aggs, one at least, from the first on.
func mergeAllModel(l []impl.Agg) impl.Agg {
	out := l[0]
	for _, a := range l[1:] {
		out = mergeAggModel(out, a)
	}
	return out
}

func downAggsModel(l []impl.Agg, res int, times int) []impl.Agg {
	if !goodAggsModel(l, res) || times < 1 || times > 1000 || res*times > maxRes {
		return nil
	}
	var out []impl.Agg
	for len(l) > 0 {
		at, n := windowModel(l[0].Time, res*times), 1
		for n < len(l) && l[n].Time <= at {
			n++
		}
		a := mergeAllModel(l[:n])
		a.Time = at
		out, l = append(out, a), l[n:]
	}
	if !goodAggsModel(out, res*times) {
		return nil
	}
	return out
}

// overModel is what an over tells of an Agg; false where it is none.
func overModel(a impl.Agg, over int) (int, bool) {
	switch over {
	case 1:
		return a.Count, true
	case 2:
		return a.Sum, true
	case 3:
		return a.Min, true
	case 4:
		return a.Max, true
	case 5:
		// With a divisor above 0 Euclid's quotient is the one that is rounded down.
		return int(new(big.Int).Div(big.NewInt(int64(a.Sum)), big.NewInt(int64(a.Count))).Int64()), true
	case 6:
		return a.Rise, true
	case 7:
		return a.First, true
	case 8:
		return a.Last, true
	}
	return 0, false
}

func sampleOverModel(l []impl.Sample, from int, to int, over int) (int, bool) {
	if !goodSamplesModel(l) || from < -1 || to < -1 || from > maxTime || to > maxTime || from > to {
		return 0, false
	}
	values := liveValues(l, from, to)
	if len(values) == 0 {
		return 0, false
	}
	return overModel(aggModel(to, values), over)
}

func aggOverModel(l []impl.Agg, res int, from int, to int, over int) (int, bool) {
	if !goodAggsModel(l, res) || from < -1 || from > maxTime || to < 0 || to > maxTime || from > to || to%res != 0 || from >= 0 && from%res != 0 {
		return 0, false
	}
	var in []impl.Agg
	for _, a := range l {
		if a.Time > from && a.Time <= to {
			in = append(in, a)
		}
	}
	if len(in) == 0 {
		return 0, false
	}
	return overModel(mergeAllModel(in), over)
}

func checkGoodAggs(t *testing.T, l []impl.Agg, res int) bool {
	t.Helper()
	arg, kept := guarded(l)
	got := impl.GoodAggs(arg, res)
	if want := goodAggsModel(l, res); got != want || !kept() {
		t.Fatalf("GoodAggs of %.300s, %d: %v", shortly(l), res, got)
	}
	return got
}

func checkDownSamples(t *testing.T, l []impl.Sample, res int) []impl.Agg {
	t.Helper()
	arg, kept := guarded(l)
	got := impl.DownSamples(arg, res)
	if want := downSamplesModel(l, res); !slices.Equal(got, want) || !kept() {
		t.Fatalf("DownSamples of %.20v, %d: %.300s, not %.300s", l, res, shortly(got), shortly(want))
	}
	checkOwn(t, got, arg)
	return got
}

func checkDownAggs(t *testing.T, l []impl.Agg, res int, times int) []impl.Agg {
	t.Helper()
	arg, kept := guarded(l)
	got := impl.DownAggs(arg, res, times)
	if want := downAggsModel(l, res, times); !slices.Equal(got, want) || !kept() {
		t.Fatalf("DownAggs of %.300s, %d, %d: %.300s, not %.300s", shortly(l), res, times, shortly(got), shortly(want))
	}
	checkOwn(t, got, arg)
	return got
}

func checkSampleOver(t *testing.T, l []impl.Sample, from int, to int, over int) (int, bool) {
	t.Helper()
	arg, kept := guarded(l)
	got, ok := impl.SampleOver(arg, from, to, over)
	if want, is := sampleOverModel(l, from, to, over); got != want || ok != is || !kept() {
		t.Fatalf("SampleOver of %.20v, %d to %d, %d: %d, %v, not %d, %v", l, from, to, over, got, ok, want, is)
	}
	return got, ok
}

func checkAggOver(t *testing.T, l []impl.Agg, res int, from int, to int, over int) (int, bool) {
	t.Helper()
	arg, kept := guarded(l)
	got, ok := impl.AggOver(arg, res, from, to, over)
	if want, is := aggOverModel(l, res, from, to, over); got != want || ok != is || !kept() {
		t.Fatalf("AggOver of %.300s, %d, %d to %d, %d: %d, %v, not %d, %v", shortly(l), res, from, to, over, got, ok, want, is)
	}
	return got, ok
}

// endedSamples are good samples of a width, in which series end now and then and begin anew, from a time on.
func endedSamples(r *rand.Rand, n int, from int, width int) []impl.Sample {
	var out []impl.Sample
	time, value := from, edgeValue(r)
	for range n {
		if time > maxTime {
			break
		}
		switch r.Intn(8) {
		case 0:
			value = impl.StaleMark
		case 1:
			value = edgeValue(r)
		case 2:
			value -= r.Intn(20)
		case 3:
			value = r.Intn(7) - 3
		case 4, 5:
			value += r.Intn(20)
		}
		out = append(out, impl.Sample{Time: time, Value: value})
		time += 1 + r.Intn(width)
	}
	return out
}

// windowEnds are ends of windows around those of a list, and -1.
func windowEnds(l []impl.Agg, res int) []int {
	out := []int{-1, 0, maxTime - maxTime%res}
	for _, a := range l {
		for _, at := range []int{a.Time - res, a.Time, a.Time + res} {
			if at >= 0 && at <= maxTime {
				out = append(out, at)
			}
		}
	}
	slices.Sort(out)
	return slices.Compact(out)
}

// Promise 11: windows put together are those of the greater res.
func TestWindowsStepByStepOrAtOnce(t *testing.T) {
	r := rand.New(rand.NewSource(111))
	for range 1500 {
		res := []int{1, 2, 3, 7, 10, 15, 60, 1000, 1 + r.Intn(200)}[r.Intn(9)]
		times := []int{1, 2, 3, 5, 10, 1000, 1 + r.Intn(1000)}[r.Intn(7)]
		from := []int{0, 0, 1, r.Intn(1000), maxTime - r.Intn(3000)}[r.Intn(5)]
		l := endedSamples(r, r.Intn(40), from, []int{1, 3, 2 * res, res * times}[r.Intn(4)])
		small := checkDownSamples(t, l, res)
		if !checkGoodAggs(t, small, res) {
			t.Fatalf("windows of %v at %d are not good: %v", l, res, small)
		}
		at := checkDownAggs(t, small, res, times)
		want := checkDownSamples(t, l, res*times)
		if !slices.Equal(at, want) {
			t.Fatalf("%v at %d, %d times: %v, at once %v", l, res, times, at, want)
		}
		again := 1 + r.Intn(maxRes/(res*times))
		if again > 1000 {
			again = 1000
		}
		if got := checkDownAggs(t, at, res*times, again); !slices.Equal(got, impl.DownSamples(l, res*times*again)) {
			t.Fatalf("%v at %d, %d and %d times: %v", l, res, times, again, got)
		}
	}
}

// Promise 11: over spans that begin and end at windows' ends windows say what samples say.
func TestWindowsSayWhatSamplesSay(t *testing.T) {
	r := rand.New(rand.NewSource(112))
	for range 120 {
		res := []int{1, 2, 3, 7, 10, 60, maxRes, 1 + r.Intn(200)}[r.Intn(8)]
		from := []int{0, 0, 1, r.Intn(1000), maxTime - r.Intn(50*res)}[r.Intn(5)]
		l := endedSamples(r, r.Intn(25), from, []int{1, 3, 2 * res}[r.Intn(3)])
		windows := impl.DownSamples(l, res)
		ends := windowEnds(windows, res)
		for range 60 {
			from, to := ends[r.Intn(len(ends))], ends[r.Intn(len(ends))]
			for _, over := range allOvers {
				got, ok := checkAggOver(t, windows, res, from, to, over)
				want, is := checkSampleOver(t, l, from, to, over)
				if got != want || ok != is {
					t.Fatalf("%v at %d, %d to %d, %d: %d, %v, but the samples say %d, %v", l, res, from, to, over, got, ok, want, is)
				}
			}
		}
	}
}

// Aggs that no samples give are put together step by step as at once, too.
func TestAggsStepByStepOrAtOnce(t *testing.T) {
	r := rand.New(rand.NewSource(113))
	for range 2000 {
		res := 1 + r.Intn(5)
		l := randomAggs(r, r.Intn(12), res)
		a, b := 1+r.Intn(6), 1+r.Intn(6)
		step := checkDownAggs(t, checkDownAggs(t, l, res, a), res*a, b)
		if at := checkDownAggs(t, l, res, a*b); !slices.Equal(step, at) {
			t.Fatalf("%v at %d, %d and %d times: %v, at once %v", l, res, a, b, step, at)
		}
	}
}

// randomAggs are good aggs of a res, also such as no samples give.
func randomAggs(r *rand.Rand, n int, res int) []impl.Agg {
	var out []impl.Agg
	last := (maxTime + maxRes) / res
	number := []int{0, 1, r.Intn(50), last - 20}[r.Intn(4)]
	many := []int{1, 5, 300, 2000}[r.Intn(4)]
	for range n {
		if number > last {
			break
		}
		v := []int{edgeValue(r), edgeValue(r), edgeValue(r), edgeValue(r)}
		slices.Sort(v)
		first, end := v[r.Intn(4)], v[r.Intn(4)]
		out = append(out, impl.Agg{Time: number * res, Count: 1 + r.Intn(many), Sum: edgeValue(r), Min: v[0], Max: v[3], First: first, Last: end, Rise: edgeValue(r)})
		number += 1 + r.Intn(3)
	}
	return out
}

// valued are samples with these values, 10 apart, from 10 on.
func valued(values ...int) []impl.Sample {
	var out []impl.Sample
	for i, v := range values {
		out = append(out, impl.Sample{Time: 10 * (i + 1), Value: v})
	}
	return out
}

func TestMarksOfAnEndCountForNothing(t *testing.T) {
	const mark = impl.StaleMark
	for _, c := range []struct {
		values []int
		rise   int
	}{
		{[]int{8, mark, 5}, 5}, {[]int{8, mark, 8}, 0}, {[]int{8, mark, 11}, 3}, {[]int{-8, mark, -9}, -9}, {[]int{-8, mark, -5}, 3}, {[]int{8, mark, mark, mark, 5}, 5},
		{[]int{mark, 4, 9}, 5}, {[]int{4, 9, mark}, 5}, {[]int{mark, mark, 4, mark, 9, mark, 2, mark}, 7}, {[]int{mark, 3, mark}, 0}, {[]int{8, mark, math.MinInt + 1}, math.MinInt + 1},
	} {
		l := valued(c.values...)
		live := liveValues(l, -1, maxTime)
		want := aggModel(1000, live)
		if want.Rise != c.rise {
			t.Fatalf("%v: the model says %d", c.values, want.Rise)
		}
		got := checkDownSamples(t, l, 1000)
		if len(got) != 1 || got[0] != want {
			t.Errorf("%v: %v, not %v", c.values, got, want)
		}
		for _, over := range allOvers {
			checkSampleOver(t, l, -1, 1000, over)
			checkSampleOver(t, l, 10, 30, over)
			checkSampleOver(t, l, 19, 20, over)
		}
		// A window for each sample, none for a mark.
		small := checkDownSamples(t, l, 10)
		if len(small) != len(live) {
			t.Errorf("%v: %v", c.values, small)
		}
		if v, ok := checkAggOver(t, small, 10, -1, 1000, impl.OverRise); !ok || v != c.rise {
			t.Errorf("%v: %d, %v", c.values, v, ok)
		}
	}
}

func TestNothingButMarks(t *testing.T) {
	const mark = impl.StaleMark
	for _, l := range [][]impl.Sample{nil, {}, valued(mark), valued(mark, mark, mark), steadySamples(2000, 0, 1, mark)} {
		for _, res := range []int{1, 7, maxRes} {
			if got := checkDownSamples(t, l, res); len(got) != 0 {
				t.Errorf("%.5v: %v", l, got)
			}
		}
		for _, over := range allOvers {
			if v, ok := checkSampleOver(t, l, -1, maxTime, over); v != 0 || ok {
				t.Errorf("%.5v: %d, %v", l, v, ok)
			}
		}
	}
	// A window of marks between two others is none.
	l := valued(1, mark, 3)
	if got := checkDownSamples(t, l, 10); len(got) != 2 || got[0].Time != 10 || got[1].Time != 30 {
		t.Errorf("%v", got)
	}
	if v, ok := checkSampleOver(t, l, 10, 20, impl.OverCount); v != 0 || ok {
		t.Errorf("%d, %v of a mark", v, ok)
	}
}

func TestWindowsBeginAboveAndEndAt(t *testing.T) {
	for _, c := range []struct {
		time, res, window int
	}{
		{0, 1, 0}, {0, 10, 0}, {0, maxRes, 0}, {1, 10, 10}, {9, 10, 10}, {10, 10, 10}, {11, 10, 20}, {20, 10, 20}, {21, 10, 30}, {1, 1, 1}, {7, 1, 7}, {1, maxRes, maxRes}, {maxRes, maxRes, maxRes}, {maxRes + 1, maxRes, 2 * maxRes},
		{maxTime, 1, maxTime}, {maxTime, maxRes, maxTime}, {maxTime, 999999, 1000000999999 - 1000000999999%999999}, {maxTime, 3, maxTime + 2}, {maxTime - 1, 3, maxTime - 1}, {maxTime, 7, maxTime + 6}, {maxTime - 1, maxRes, maxTime}, {maxTime - maxRes, maxRes, maxTime - maxRes}, {maxTime - maxRes + 1, maxRes, maxTime},
	} {
		want := impl.Agg{Time: c.window, Count: 1, Sum: 5, Min: 5, Max: 5, First: 5, Last: 5}
		if got := checkDownSamples(t, []impl.Sample{{Time: c.time, Value: 5}}, c.res); len(got) != 1 || got[0] != want {
			t.Errorf("%d at %d: %v", c.time, c.res, got)
		}
	}
	l := []impl.Sample{{Time: 0, Value: 1}, {Time: 1, Value: 2}, {Time: 10, Value: 4}, {Time: 11, Value: 8}, {Time: 19, Value: 16}, {Time: 20, Value: 32}, {Time: 21, Value: 64}}
	var sums []int
	for _, a := range checkDownSamples(t, l, 10) {
		sums = append(sums, a.Sum)
	}
	if !slices.Equal(sums, []int{1, 6, 56, 64}) {
		t.Error(sums)
	}
	for _, x := range append(badSamples(), l, nil, steadySamples(2000, maxTime-1999, 1, 7), steadySamples(2000, 0, 1, 7)) {
		for _, res := range []int{1, 2, 10, maxRes - 1, maxRes, maxRes + 1, 0, -1, math.MinInt, math.MaxInt} {
			checkDownSamples(t, x, res)
		}
	}
}

func TestRises(t *testing.T) {
	for _, c := range []struct {
		values []int
		rise   int
	}{
		{[]int{5}, 0}, {[]int{-5}, 0}, {[]int{5, 5}, 0}, {[]int{5, 6}, 1}, {[]int{5, 4}, 4}, {[]int{5, 0}, 0}, {[]int{0, 5}, 5}, {[]int{1, 3, 2, 7, 7, 0, 1}, 2 + 2 + 5 + 0 + 0 + 1},
		{[]int{-5, -3}, 2}, {[]int{-3, -5}, -5}, {[]int{-3, 4}, 7}, {[]int{4, -3}, -3}, {[]int{-3, -3}, 0},
		{[]int{-1, math.MaxInt}, math.MinInt}, {[]int{math.MinInt + 1, math.MaxInt}, -2}, {[]int{math.MaxInt, math.MinInt + 1}, math.MinInt + 1}, {[]int{0, math.MaxInt, 0, math.MaxInt}, -2}, {[]int{math.MaxInt, math.MaxInt - 1, 1}, math.MaxInt}, {[]int{math.MaxInt, math.MaxInt - 1, 2}, math.MinInt},
	} {
		l := valued(c.values...)
		got := checkDownSamples(t, l, 1000)
		if len(got) != 1 || got[0].Rise != c.rise {
			t.Errorf("%v: %v, not %d", c.values, got, c.rise)
		}
		if v, ok := checkSampleOver(t, l, 0, 1000, impl.OverRise); !ok || v != c.rise {
			t.Errorf("%v: %d, %v, not %d", c.values, v, ok, c.rise)
		}
		// The same rise from window to window.
		small := checkDownSamples(t, l, 10)
		if v, ok := checkAggOver(t, small, 10, 0, 1000, impl.OverRise); !ok || v != c.rise {
			t.Errorf("%v: %d, %v, not %d", c.values, v, ok, c.rise)
		}
	}
}

func TestSumsWrap(t *testing.T) {
	l := valued(math.MaxInt, 1)
	if got := checkDownSamples(t, l, 100); len(got) != 1 || got[0].Sum != math.MinInt || got[0].Max != math.MaxInt {
		t.Error(got)
	}
	if v, ok := checkSampleOver(t, l, -1, 100, impl.OverAvg); !ok || v != math.MinInt/2 {
		t.Error(v, ok)
	}
	l = valued(math.MinInt+1, -2)
	if v, ok := checkSampleOver(t, l, -1, 100, impl.OverSum); !ok || v != math.MaxInt {
		t.Error(v, ok)
	}
	// A Sum that is by chance the mark's number is a sum as any other.
	l = valued(math.MinInt+1, -1)
	windows := checkDownSamples(t, l, 100)
	if v, ok := checkAggOver(t, windows, 100, -1, 100, impl.OverSum); !ok || v != math.MinInt {
		t.Error(v, ok)
	}
}

func TestMergedAggs(t *testing.T) {
	a := impl.Agg{Time: 10, Count: 2, Sum: 12, Min: 5, Max: 7, First: 5, Last: 7, Rise: 2}
	b := impl.Agg{Time: 20, Count: 3, Sum: 24, Min: 7, Max: 9, First: 8, Last: 9, Rise: 4}
	if got := impl.MergeAgg(a, b); got != (impl.Agg{Time: 20, Count: 5, Sum: 36, Min: 5, Max: 9, First: 5, Last: 9, Rise: 7}) {
		t.Error(got)
	}
	if got := impl.MergeAgg(b, a); got != (impl.Agg{Time: 10, Count: 5, Sum: 36, Min: 5, Max: 9, First: 8, Last: 7, Rise: 11}) {
		t.Error(got)
	}
	for _, c := range [][3]int{{7, 6, 6}, {7, 7, 0}, {7, 8, 1}, {-1, -2, -2}, {0, -1, -1}, {math.MinInt, math.MaxInt, -1}, {math.MaxInt, math.MinInt, math.MinInt}, {-1, math.MaxInt, math.MinInt}} {
		if got := impl.MergeAgg(impl.Agg{Last: c[0], Rise: 100}, impl.Agg{First: c[1], Rise: 1000}); got.Rise != 1100+c[2] {
			t.Errorf("%d to %d: %d", c[0], c[1], got.Rise)
		}
	}
	if got := impl.MergeAgg(impl.Agg{}, impl.Agg{}); got != (impl.Agg{}) {
		t.Error(got)
	}
	r := rand.New(rand.NewSource(114))
	pick := func() int { return []int{edgeValue(r), r.Intn(10) - 5, -int(r.Uint64() >> 1)}[r.Intn(3)] }
	any := func() impl.Agg {
		return impl.Agg{Time: pick(), Count: pick(), Sum: pick(), Min: pick(), Max: pick(), First: pick(), Last: pick(), Rise: pick()}
	}
	for range 5000 {
		a, b := any(), any()
		if got, want := impl.MergeAgg(a, b), mergeAggModel(a, b); got != want {
			t.Fatalf("%v and %v: %v, not %v", a, b, got, want)
		}
	}
}

// steadyAggs are n aggs of a res from a Time on, of one sample each.
func steadyAggs(n int, from int, res int) []impl.Agg {
	out := make([]impl.Agg, n)
	for i := range out {
		out[i] = impl.Agg{Time: from + i*res, Count: 1, Sum: 3, Min: 3, Max: 3, First: 3, Last: 3}
	}
	return out
}

// aggWith is a good Agg at Time 30 but for what is changed.
func aggWith(change func(a *impl.Agg)) impl.Agg {
	a := impl.Agg{Time: 30, Count: 2, Sum: 9, Min: -4, Max: 6, First: 1, Last: 2, Rise: 1}
	change(&a)
	return a
}

// badAggs are lists of which none is good at 10.
func badAggs() [][]impl.Agg {
	out := [][]impl.Agg{
		steadyAggs(2001, 0, 10), make([]impl.Agg, 1<<16), steadyAggs(2, 10, 0), steadyAggs(2, 20, -10), steadyAggs(3, maxTime+maxRes-10, 10), steadyAggs(5, 0, 9), steadyAggs(1, -10, 10), {{}},
		{aggWith(func(a *impl.Agg) {}), aggWith(func(a *impl.Agg) {})},
	}
	for _, change := range []func(a *impl.Agg){
		func(a *impl.Agg) { a.Time = 31 }, func(a *impl.Agg) { a.Time = 29 }, func(a *impl.Agg) { a.Time = -10 }, func(a *impl.Agg) { a.Time = -1 }, func(a *impl.Agg) { a.Time = maxTime + maxRes + 10 }, func(a *impl.Agg) { a.Time = maxTime + maxRes + 1 }, func(a *impl.Agg) { a.Time = math.MinInt + 8 }, func(a *impl.Agg) { a.Time = math.MaxInt - 7 },
		func(a *impl.Agg) { a.Count = 0 }, func(a *impl.Agg) { a.Count = -1 }, func(a *impl.Agg) { a.Count = 2001 }, func(a *impl.Agg) { a.Count = math.MinInt }, func(a *impl.Agg) { a.Count = math.MaxInt },
		func(a *impl.Agg) { a.First = -5 }, func(a *impl.Agg) { a.First = 7 }, func(a *impl.Agg) { a.Last = -5 }, func(a *impl.Agg) { a.Last = 7 }, func(a *impl.Agg) { a.First = math.MinInt }, func(a *impl.Agg) { a.Last = math.MaxInt }, func(a *impl.Agg) { a.Min, a.Max = 6, -4 }, func(a *impl.Agg) { a.Min = 2 }, func(a *impl.Agg) { a.Max = 1 },
	} {
		a := aggWith(change)
		out = append(out, []impl.Agg{a}, append(steadyAggs(2, 0, 10), a), append([]impl.Agg{a}, steadyAggs(2, 40, 10)...))
	}
	return out
}

func TestAggsThatAreGood(t *testing.T) {
	good := [][]impl.Agg{nil, {}, steadyAggs(1, 0, 10), steadyAggs(2000, 0, 10), steadyAggs(2, maxTime+maxRes-10, 10), steadyAggs(2000, maxTime+maxRes-19990, 10), steadyAggs(9, 30, 70)}
	for _, change := range []func(a *impl.Agg){
		func(a *impl.Agg) {}, func(a *impl.Agg) { a.Time = 0 }, func(a *impl.Agg) { a.Time = maxTime + maxRes }, func(a *impl.Agg) { a.Time = maxTime }, func(a *impl.Agg) { a.Count = 1 }, func(a *impl.Agg) { a.Count = 2000 },
		func(a *impl.Agg) { a.First = -4 }, func(a *impl.Agg) { a.First = 6 }, func(a *impl.Agg) { a.Last = -4 }, func(a *impl.Agg) { a.Last = 6 }, func(a *impl.Agg) { a.Min = 1 }, func(a *impl.Agg) { a.Max = 2 }, func(a *impl.Agg) { a.Min, a.Max, a.Last = 1, 1, 1 }, func(a *impl.Agg) { a.Min, a.Max = math.MinInt, math.MaxInt },
		func(a *impl.Agg) { a.Sum, a.Rise = math.MinInt, math.MaxInt }, func(a *impl.Agg) { a.Sum, a.Rise = math.MaxInt, math.MinInt },
	} {
		good = append(good, []impl.Agg{aggWith(change)})
	}
	for _, l := range good {
		if !checkGoodAggs(t, l, 10) {
			t.Errorf("%.200s is not good", shortly(l))
		}
	}
	for _, l := range badAggs() {
		if checkGoodAggs(t, l, 10) {
			t.Errorf("%.200s is good", shortly(l))
		}
	}
	for _, l := range append(append(badAggs(), good...), steadyAggs(3, 0, maxRes), steadyAggs(1, maxTime+maxRes, maxRes)) {
		for _, res := range []int{0, 1, -1, 2, 5, 20, maxRes - 1, maxRes, maxRes + 1, -10, math.MinInt, math.MaxInt} {
			checkGoodAggs(t, l, res)
		}
	}
	r := rand.New(rand.NewSource(115))
	for range 3000 {
		res := 1 + r.Intn(4)
		l := randomAggs(r, 1+r.Intn(6), res)
		if !checkGoodAggs(t, l, res) {
			t.Fatalf("%v is not good at %d", l, res)
		}
		a := &l[r.Intn(len(l))]
		field := []*int{&a.Time, &a.Count, &a.Min, &a.Max, &a.First, &a.Last}[r.Intn(6)]
		*field += []int{1, -1, res, -res, 1999, edgeValue(r)}[r.Intn(6)]
		checkGoodAggs(t, l, res)
		checkDownAggs(t, l, res, 1+r.Intn(5))
		checkAggOver(t, l, res, -1, 30*res, overs[r.Intn(len(overs))])
	}
}

func TestDownAggsAtItsLimits(t *testing.T) {
	lists := [][]impl.Agg{nil, steadyAggs(20, 0, 1000), steadyAggs(20, 1000, 1000), steadyAggs(2000, 0, 1000), steadyAggs(2001, 0, 1000), steadyAggs(20, 500, 1000), steadyAggs(3, 0, maxRes), steadyAggs(3, maxTime-maxRes, maxRes), steadyAggs(30, 0, 10)}
	for _, l := range append(lists, badAggs()...) {
		for _, res := range []int{1, 10, 999, 1000, 1001, maxRes, maxRes + 1, 0, -1, math.MinInt, math.MaxInt} {
			for _, times := range []int{1, 2, 10, 999, 1000, 1001, 0, -1, math.MinInt, math.MaxInt, 1 << 32, 1 << 62} {
				checkDownAggs(t, l, res, times)
			}
		}
	}
	l := steadyAggs(20, 1000, 1000)
	for _, c := range []struct {
		res, times, want int
	}{
		{1000, 1, 20}, {1000, 1000, 1}, {1000, 1001, 0}, {1000, 0, 0}, {1000, 10, 2}, {1000, 7, 3}, {500, 1000, 1}, {500, 1, 20}, {200, 1000, 1}, {1000, -1, 0},
	} {
		if got := checkDownAggs(t, l, c.res, c.times); len(got) != c.want {
			t.Errorf("%d, %d times: %v", c.res, c.times, got)
		}
	}
	if got := checkDownAggs(t, l, 1000, 1); !slices.Equal(got, l) {
		t.Errorf("once: %v", got)
	}
	// MaxRes met exactly and passed by one time.
	wide := steadyAggs(4, 0, 250000)
	if got := checkDownAggs(t, wide, 250000, 4); len(got) != 2 || got[0].Time != 0 || got[1].Time != maxRes || got[1].Count != 3 {
		t.Errorf("%v", got)
	}
	if got := checkDownAggs(t, wide, 250000, 5); len(got) != 0 {
		t.Errorf("%v", got)
	}
}

// Windows that would be no good ones are none.
func TestDownAggsOfTooMuch(t *testing.T) {
	full := steadyAggs(3, 10, 10)
	full[0].Count, full[1].Count = 1000, 999
	if got := checkDownAggs(t, full, 10, 3); len(got) != 1 || got[0].Count != 2000 {
		t.Errorf("%v", got)
	}
	full[1].Count++
	if got := checkDownAggs(t, full, 10, 3); len(got) != 0 {
		t.Errorf("%v", got)
	}
	if got := checkDownAggs(t, full, 10, 2); len(got) != 2 || got[0].Count != 2000 {
		t.Errorf("%v", got)
	}
	// The last window of 8 ends just at the last time, that of 3 behind it.
	late := steadyAggs(1, maxTime+maxRes, 1)
	if got := checkDownAggs(t, late, 1, 8); len(got) != 1 || got[0].Time != maxTime+maxRes {
		t.Errorf("%v", got)
	}
	if got := checkDownAggs(t, late, 1, 3); len(got) != 0 {
		t.Errorf("%v", got)
	}
}

func TestAveragesAreRoundedDown(t *testing.T) {
	for _, c := range []struct {
		values []int
		want   int
	}{
		{[]int{7}, 7}, {[]int{-7}, -7}, {[]int{3, 4}, 3}, {[]int{-3, -4}, -4}, {[]int{-3, 2}, -1}, {[]int{3, -2}, 0}, {[]int{-1, 0, 0}, -1}, {[]int{-2, 0, -1}, -1}, {[]int{-2, 0, -2}, -2}, {[]int{1, 1, 0}, 0}, {[]int{0, 0}, 0}, {[]int{5, -5}, 0}, {[]int{math.MinInt + 1}, math.MinInt + 1}, {[]int{math.MinInt + 1, 0}, math.MinInt / 2}, {[]int{math.MaxInt, 0}, math.MaxInt / 2},
	} {
		l := valued(c.values...)
		if v, ok := checkSampleOver(t, l, -1, 1000, impl.OverAvg); !ok || v != c.want {
			t.Errorf("%v: %d, not %d", c.values, v, c.want)
		}
		if v, ok := checkAggOver(t, impl.DownSamples(l, 20), 20, -1, 1000, impl.OverAvg); !ok || v != c.want {
			t.Errorf("%v: %d, not %d", c.values, v, c.want)
		}
	}
}

func TestOverEachSpan(t *testing.T) {
	l := []impl.Sample{{Time: 0, Value: 4}, {Time: 5, Value: -9}, {Time: 10, Value: 7}, {Time: 11, Value: impl.StaleMark}, {Time: 20, Value: 6}, {Time: maxTime, Value: 8}}
	for _, c := range []struct {
		from, to int
		want     []int
	}{
		{-1, 0, []int{1, 4, 4, 4, 4, 0, 4, 4}}, {0, 10, []int{2, -2, -9, 7, -1, 16, -9, 7}}, {-1, 10, []int{3, 2, -9, 7, 0, 7, 4, 7}}, {4, 5, []int{1, -9, -9, -9, -9, 0, -9, -9}}, {5, 9, nil}, {10, 19, nil}, {10, 20, []int{1, 6, 6, 6, 6, 0, 6, 6}}, {9, 20, []int{2, 13, 6, 7, 6, 6, 7, 6}},
		{0, 0, nil}, {-1, -1, nil}, {10, 10, nil}, {10, 9, nil}, {0, -1, nil}, {20, maxTime, []int{1, 8, 8, 8, 8, 0, 8, 8}}, {20, maxTime - 1, nil}, {maxTime - 1, maxTime, []int{1, 8, 8, 8, 8, 0, 8, 8}}, {maxTime, maxTime, nil}, {-1, maxTime + 1, nil}, {-2, 10, nil}, {-1, maxTime, []int{5, 16, -9, 8, 3, 15, 4, 8}}, {math.MinInt, math.MaxInt, nil}, {math.MaxInt, math.MaxInt, nil}, {math.MinInt, 5, nil}, {math.MaxInt, math.MinInt, nil}, {-1, math.MaxInt, nil}, {maxTime + 1, maxTime + 1, nil},
	} {
		for i, over := range overs {
			v, ok := checkSampleOver(t, l, c.from, c.to, over)
			if c.want == nil && (ok || v != 0) || c.want != nil && (!ok || v != c.want[i]) {
				t.Errorf("%d to %d, %d: %d, %v", c.from, c.to, over, v, ok)
			}
			// Windows of one time each are what the samples are.
			checkAggOver(t, impl.DownSamples(l, 1), 1, c.from, c.to, over)
			checkAggOver(t, impl.DownSamples(l, 10), 10, c.from, c.to, over)
		}
		for _, over := range []int{0, 9, -1, 10, math.MinInt, math.MaxInt} {
			if v, ok := checkSampleOver(t, l, c.from, c.to, over); v != 0 || ok {
				t.Errorf("%d to %d, %d: %d, %v", c.from, c.to, over, v, ok)
			}
			if v, ok := checkAggOver(t, impl.DownSamples(l, 1), 1, c.from, c.to, over); v != 0 || ok {
				t.Errorf("%d to %d, %d: %d, %v", c.from, c.to, over, v, ok)
			}
		}
	}
}

func TestSpansOfAggs(t *testing.T) {
	l := steadyAggs(5, 10, 10)
	for _, c := range []struct {
		res, from, to, want int
	}{
		{10, -1, 50, 5}, {10, 0, 50, 5}, {10, 10, 50, 4}, {10, 10, 40, 3}, {10, 10, 20, 1}, {10, 10, 10, 0}, {10, 20, 10, 0}, {10, 50, 60, 0}, {10, -1, 0, 0}, {10, -1, -1, 0}, {10, -10, 50, 0}, {10, -2, 50, 0}, {10, 5, 50, 0}, {10, 9, 50, 0}, {10, 11, 50, 0}, {10, 0, 49, 0}, {10, 0, 51, 0}, {10, 0, 55, 0}, {10, -1, 45, 0},
		{10, 0, maxTime, 5}, {10, 0, maxTime + 10, 0}, {10, maxTime, maxTime, 0}, {10, maxTime + 10, maxTime + 10, 0}, {10, 0, math.MaxInt - 7, 0}, {10, math.MinInt + 8, 50, 0}, {5, -1, 50, 5}, {5, 5, 45, 4}, {5, 5, 46, 0}, {20, -1, 40, 0}, {0, -1, 50, 0}, {-10, -1, 50, 0}, {maxRes + 1, -1, 0, 0},
	} {
		v, ok := checkAggOver(t, l, c.res, c.from, c.to, impl.OverCount)
		if v != c.want || ok != (c.want > 0) {
			t.Errorf("%d, %d to %d: %d, %v", c.res, c.from, c.to, v, ok)
		}
	}
	// A window that ends behind MaxTime lies in no span.
	late := steadyAggs(2, maxTime, 10)
	if v, ok := checkAggOver(t, late, 10, -1, maxTime, impl.OverCount); v != 1 || !ok {
		t.Errorf("%d, %v", v, ok)
	}
	// More together than one window may have.
	full := steadyAggs(2000, 0, 10)
	for i := range full {
		full[i].Count = 2000
	}
	if v, ok := checkAggOver(t, full, 10, -1, maxTime, impl.OverCount); v != 4000000 || !ok {
		t.Errorf("%d, %v", v, ok)
	}
	for _, bad := range append(badAggs(), steadyAggs(2001, 0, 10)) {
		for _, over := range allOvers {
			if v, ok := checkAggOver(t, bad, 10, -1, 100, over); v != 0 || ok {
				t.Errorf("%.200s: %d, %v", shortly(bad), v, ok)
			}
		}
	}
	for _, bad := range badSamples() {
		for _, over := range allOvers {
			if v, ok := checkSampleOver(t, bad, -1, 100, over); v != 0 || ok {
				t.Errorf("%.20v: %d, %v", bad, v, ok)
			}
		}
	}
}

// Promise 27: any numbers beside any lists.
func TestWindowsOfAnyArguments(t *testing.T) {
	r := rand.New(rand.NewSource(116))
	number := func() int {
		return []int{-1, 0, 1, 2, 3, 10, r.Intn(100), maxTime, maxTime + 1, maxRes, maxRes + 1, 1000, 1001, math.MinInt, math.MaxInt, int(r.Uint64()), 10 * r.Intn(20)}[r.Intn(17)]
	}
	bad, wrong := badSamples()[3:], badAggs()[2:]
	for range 4000 {
		samples, aggs := endedSamples(r, r.Intn(10), number()&1023, 5), randomAggs(r, r.Intn(8), 1+r.Intn(3))
		if r.Intn(6) == 0 {
			samples, aggs = bad[r.Intn(len(bad))], wrong[r.Intn(len(wrong))]
		}
		res, from, to, over := number(), number(), number(), 1+r.Intn(9)
		checkDownSamples(t, samples, res)
		checkGoodAggs(t, aggs, res)
		checkDownAggs(t, aggs, res, number())
		checkSampleOver(t, samples, from, to, over)
		checkAggOver(t, aggs, res, from, to, over)
	}
}

// Answers are new memory: what is written into one shows in no other.
func TestAnswersOfWindowsAreNew(t *testing.T) {
	l := endedSamples(rand.New(rand.NewSource(117)), 50, 0, 5)
	windows := impl.DownSamples(l, 10)
	want := slices.Clone(windows)
	once := impl.DownAggs(windows, 10, 1)
	for _, x := range [][]impl.Agg{once, impl.DownAggs(windows, 10, 3), impl.DownSamples(l, 10)} {
		for i := range x[:cap(x)] {
			x[:cap(x)][i] = impl.Agg{Time: -7}
		}
	}
	if !slices.Equal(windows, want) || !slices.Equal(impl.DownSamples(l, 10), want) || !slices.Equal(impl.DownAggs(windows, 10, 1), want) {
		t.Error(windows)
	}
}
