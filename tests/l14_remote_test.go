package tests

import (
	"fmt"
	"math"
	"math/rand"
	"runtime"
	"slices"
	"strings"
	"testing"
	"time"

	"loop.example/g00039/impl"
)

func goodRemoteModel(c impl.RemoteConf) bool {
	return c.Batch > 0 && c.Batch < 501 && c.Queue > 0 && c.Queue < 2001 && c.Wait > -1 && c.Wait < 10001 && c.Again > 0 && c.Again < 10001 && c.Busy > 0 && c.Busy < 10001
}

func remoteArgsModel(c impl.RemoteConf, events []impl.RemoteEvent, line []int, end int) bool {
	if !goodRemoteModel(c) || len(events) > 60 || len(line) > 500 || end < 0 || end > maxTime {
		return false
	}
	last := -1
	for _, e := range events {
		if e.Time <= last || e.Time > maxTime || len(e.Puts) > 500 {
			return false
		}
		last = e.Time
	}
	return !slices.ContainsFunc(line, func(n int) bool { return !slices.Contains([]int{0, 1, 2, 3}, n) })
}

// agenda has the times at which there may be something to do; or it goes on by one each time.
type agenda struct {
	every bool
	times map[int]bool
}

func (a agenda) behind(now int, end int) int {
	next := end + 1
	for time := range a.times {
		if time > now {
			next = min(next, time)
		}
	}
	if a.every {
		return now + 1
	}
	return next
}

// remoteModel goes from time to time and does the three things of the document at each. It tells, too, all that came and was not dropped.
func remoteModel(c impl.RemoteConf, events []impl.RemoteEvent, line []int, end int, every bool) (impl.RemoteRes, []impl.Put) {
	if !remoteArgsModel(c, events, line, end) {
		return impl.RemoteRes{}, nil
	}
	var res impl.RemoteRes
	var came []impl.Put
	var when []int // of all that came
	visits, gone, many, number, due, k, taken := agenda{every, map[int]bool{}}, 0, 0, 0, 0, 0, 0
	for _, e := range events {
		visits.times[e.Time], visits.times[e.Time+c.Wait] = true, true
	}
	for now := 0; now <= end; now = visits.behind(now, end) {
		for _, e := range events {
			for _, p := range e.Puts {
				if e.Time == now && len(came)-gone < c.Queue {
					came, when = append(came, p), append(when, now)
				} else if e.Time == now {
					res.Dropped++
				}
			}
		}
		for acked := true; acked; {
			acked = false
			left := len(came) - gone
			if many == 0 && left > 0 && (left >= c.Batch || when[gone] <= now-c.Wait) {
				many, due, k = min(left, c.Batch), now, 0
				number++
			}
			made := len(res.Tries)
			if many == 0 || due != now || made == 500 {
				break
			}
			said := append(slices.Clone(line), 0)[min(made, len(line))]
			res.Tries = append(res.Tries, impl.Try{Time: now, Batch: number, Many: many, Line: said})
			if said%2 == 0 && number > taken {
				taken = number
				res.Got = append(res.Got, came[gone:gone+many]...)
			}
			switch said {
			case 0:
				gone, many, acked = gone+many, 0, true
			case 1, 2:
				k++
				due = now + c.Again*[]int{0, 1, 2, 4, 8}[min(k, 4)]
			case 3:
				due = now + c.Busy
			}
			visits.times[due] = true
		}
	}
	res.Left = len(came) - gone
	return res, came
}

// checkWays sees, by the answer alone, that all that came was dropped, is left or was acknowledged, and that batches come one behind the other and are got once.
func checkWays(t *testing.T, events []impl.RemoteEvent, end int, got impl.RemoteRes) {
	t.Helper()
	came, acked, over := 0, 0, map[int]int{}
	for _, e := range events {
		if e.Time <= end {
			came += len(e.Puts)
		}
	}
	number, ended := 0, true
	for i, x := range got.Tries {
		if ended {
			number++
		}
		last := impl.Try{}
		if i > 0 {
			last = got.Tries[i-1]
		}
		if x.Batch != number || x.Time < last.Time || x.Time > end || !ended && (x.Many != last.Many || x.Time == last.Time) {
			t.Fatalf("a try %v behind %v", x, last)
		}
		if ended = x.Line == impl.LineOk; ended {
			acked += x.Many
		}
		if x.Line == impl.LineOk || x.Line == impl.LineReply {
			over[x.Batch] = x.Many
		}
	}
	many := 0
	for _, n := range over {
		many += n
	}
	if acked+got.Left+got.Dropped != came || many != len(got.Got) || len(got.Tries) > 500 {
		t.Fatalf("%d came: %d acknowledged, %d left, %d dropped; %d over the line, %d got", came, acked, got.Left, got.Dropped, many, len(got.Got))
	}
}

// checkRemote sees that a run is what the model says, in new memory; and that what is got is the first part of what came and was not dropped.
func checkRemote(t *testing.T, c impl.RemoteConf, events []impl.RemoteEvent, line []int, end int) impl.RemoteRes {
	t.Helper()
	list, listKept := guarded(events)
	says, saysKept := guarded(line)
	got := impl.RunRemote(c, list, says, end)
	want, came := remoteModel(c, events, line, end, end < 300)
	if !same(got, want) {
		t.Fatalf("RunRemote of %v, %s, %v, %d:\n%s\nnot %s", c, shortly(events), line, end, remoteText(got), remoteText(want))
	}
	if !listKept() || !saysKept() {
		t.Fatalf("RunRemote wrote into %s or %v", shortly(events), line)
	}
	checkOwn(t, got, list, says)
	if !remoteArgsModel(c, events, line, end) {
		return got
	}
	checkWays(t, events, end, got)
	if len(got.Got) > len(came) || !same(got.Got, came[:len(got.Got)]) {
		t.Fatalf("%v, %s, %v, %d: got %s of %s", c, shortly(events), line, end, shortly(got.Got), shortly(came))
	}
	return got
}

func confOf(batch int, queue int, wait int, again int, busy int) impl.RemoteConf {
	return impl.RemoteConf{Batch: batch, Queue: queue, Wait: wait, Again: again, Busy: busy}
}

// comeAt are events, told by the time and how many puts come; the puts have Values from 0 on, over all events.
func comeAt(pairs ...int) []impl.RemoteEvent {
	var out []impl.RemoteEvent
	number := 0
	for i := 0; i < len(pairs); i += 2 {
		e := impl.RemoteEvent{Time: pairs[i]}
		for range pairs[i+1] {
			e.Puts = append(e.Puts, impl.Put{Labels: labelsOf("_name", "up"), Time: 7, Value: number})
			number++
		}
		out = append(out, e)
	}
	return out
}

const lineLetters = "olrb"

// lineOf are the numbers of a line, told by a letter each: ok, lost, reply, busy.
func lineOf(letters string) []int {
	var out []int
	for _, c := range letters {
		out = append(out, strings.IndexRune(lineLetters, c))
	}
	return out
}

// remoteText tells a run: each try's time, batch, how many and a letter; the Values that were got, those in a row as a pair; how many were dropped and are left.
func remoteText(r impl.RemoteRes) string {
	var tries, got []string
	for _, x := range r.Tries {
		tries = append(tries, fmt.Sprintf("%d:%d*%d%c", x.Time, x.Batch, x.Many, lineLetters[x.Line]))
	}
	for i := 0; i < len(r.Got); i++ {
		first := r.Got[i].Value
		for i+1 < len(r.Got) && r.Got[i+1].Value == r.Got[i].Value+1 {
			i++
		}
		got = append(got, fmt.Sprintf("%d-%d", first, r.Got[i].Value))
	}
	return fmt.Sprintf("%s | %s | %d %d", strings.Join(tries, " "), strings.Join(got, " "), r.Dropped, r.Left)
}

// remoteCase is a run and what it comes to.
type remoteCase struct {
	conf   impl.RemoteConf
	events []impl.RemoteEvent
	line   string
	end    int
	want   string
}

func checkRemoteCases(t *testing.T, cases []remoteCase) {
	t.Helper()
	for i, x := range cases {
		if got := remoteText(checkRemote(t, x.conf, x.events, lineOf(x.line), x.end)); got != x.want {
			t.Errorf("%d: %v, line %q, end %d:\n%s\nnot %s", i, x.conf, x.line, x.end, got, x.want)
		}
	}
}

func TestRemotesThatAreGood(t *testing.T) {
	for _, x := range []struct {
		name  string
		field func(c *impl.RemoteConf) *int
		least int
		most  int
	}{
		{"Batch", func(c *impl.RemoteConf) *int { return &c.Batch }, 1, 500},
		{"Queue", func(c *impl.RemoteConf) *int { return &c.Queue }, 1, 2000},
		{"Wait", func(c *impl.RemoteConf) *int { return &c.Wait }, 0, 10000},
		{"Again", func(c *impl.RemoteConf) *int { return &c.Again }, 1, 10000},
		{"Busy", func(c *impl.RemoteConf) *int { return &c.Busy }, 1, 10000},
	} {
		for _, n := range append(edgeInts(), x.least-1, x.least, x.least+1, x.most-1, x.most, x.most+1, 500, 501, 2000, 2001, 10000, 10001) {
			for _, c := range []impl.RemoteConf{confOf(1, 1, 0, 1, 1), confOf(500, 2000, 10000, 10000, 10000), confOf(3, 7, 5, 2, 4)} {
				*x.field(&c) = n
				good := n >= x.least && n <= x.most
				if impl.GoodRemote(c) != good || goodRemoteModel(c) != good {
					t.Errorf("%s %d: %v, not %v", x.name, n, !good, good)
				}
				run := checkRemote(t, c, comeAt(1, 1), nil, maxTime)
				if good && len(run.Got) != 1 || !good && !same(run, impl.RemoteRes{}) {
					t.Errorf("%s %d: %v", x.name, n, run)
				}
			}
		}
	}
	if impl.GoodRemote(impl.RemoteConf{}) {
		t.Error("the zero value is good")
	}
	if impl.MaxQueue != 2000 || impl.MaxEvents != 60 || impl.MaxWait != 10000 || impl.MaxTries != 500 || impl.LineOk != 0 || impl.LineLost != 1 || impl.LineReply != 2 || impl.LineBusy != 3 {
		t.Error("constants")
	}
}

// checkSplit sees that each put goes where its hash says, in order, in new memory.
func checkSplit(t *testing.T, puts []impl.Put, shards int) [][]impl.Put {
	t.Helper()
	list, kept := guarded(puts)
	got := impl.SplitPuts(list, shards)
	var want [][]impl.Put
	if len(puts) <= 2000 && shards >= 1 && shards <= 50 && !slices.ContainsFunc(puts, func(p impl.Put) bool { return !goodLabelsModel(p.Labels) }) {
		want = make([][]impl.Put, shards)
		for _, p := range puts {
			n := slowMix([]byte(labelsTextModel(p.Labels))) % shards
			want[n] = append(want[n], p)
		}
	}
	if !same(got, want) || !kept() {
		t.Fatalf("SplitPuts of %s, %d: %s, not %s", shortly(puts), shards, shortly(got), shortly(want))
	}
	checkOwn(t, got, list)
	return got
}

// unlike are puts of n series.
func unlike(n int) []impl.Put {
	var out []impl.Put
	for i := range n {
		out = append(out, impl.Put{Labels: labelsOf("_name", fmt.Sprintf("s%d", i%701)), Time: -i, Value: i})
	}
	return out
}

func TestSplitPuts(t *testing.T) {
	for _, shards := range append(edgeInts(), -50, 2, 3, 7, 8, 49, 50, 51, 100) {
		got := checkSplit(t, unlike(300), shards)
		if good := shards >= 1 && shards <= 50; good && len(got) != shards || !good && got != nil {
			t.Errorf("%d shards: %d", shards, len(got))
		}
		checkSplit(t, nil, shards)
		checkSplit(t, []impl.Put{}, shards)
	}
	// No puts, and shards that get none, are lists too.
	if got := checkSplit(t, nil, 50); len(got) != 50 {
		t.Errorf("no puts: %v", got)
	}
	if got := checkSplit(t, ats("up", 3, 1, 2), 50); len(got) != 50 || len(slices.Concat(got...)) != 3 || len(slices.DeleteFunc(got, func(l []impl.Put) bool { return len(l) == 0 })) != 1 {
		t.Errorf("one series: %v", got)
	}
	if got := checkSplit(t, unlike(7), 1); len(got) != 1 || !same(got[0], unlike(7)) {
		t.Errorf("one shard: %v", got)
	}
	for _, n := range []int{1999, 2000, 2001, 5000} {
		for _, shards := range []int{1, 3, 50} {
			got := checkSplit(t, unlike(n), shards)
			if n <= 2000 && len(slices.Concat(got...)) != n || n > 2000 && got != nil {
				t.Errorf("%d puts: %d", n, len(got))
			}
		}
	}
	// Any good labels, also none and without a `_name`, at any Time.
	odd := []impl.Put{{}, {Labels: labelsOf("job", "a"), Time: math.MinInt, Value: impl.StaleMark}, {Labels: manyLabels(20), Time: math.MaxInt, Value: math.MaxInt}, {Labels: []impl.Label{}, Time: -1, Value: 5}}
	if got := checkSplit(t, odd, 2); len(slices.Concat(got...)) != 4 {
		t.Errorf("%v", got)
	}
	// One put whose labels are not good, wherever it stands, and all is nothing.
	for _, l := range badLabels() {
		for _, at := range []int{0, 4, 8} {
			puts := unlike(9)
			puts[at].Labels = l
			if got := checkSplit(t, puts, 3); got != nil {
				t.Errorf("%v at %d: %v", l, at, got)
			}
		}
	}
}

func TestSplitPutsOfAnyKind(t *testing.T) {
	r := rand.New(rand.NewSource(141))
	good := 0
	for range 600 {
		puts := fewPuts(r, r.Intn(40))
		if r.Intn(3) > 0 {
			puts = goodPuts(r, r.Intn(40))
		}
		if checkSplit(t, puts, r.Intn(53)-1) != nil {
			good++
		}
	}
	if good < 300 {
		t.Errorf("just %d are split", good)
	}
}

// bigEvents are n events with many puts each, a time apart.
func bigEvents(n int, many int) []impl.RemoteEvent {
	var pairs []int
	for i := range n {
		pairs = append(pairs, 10+i, many)
	}
	return comeAt(pairs...)
}

func TestRemoteArguments(t *testing.T) {
	c := confOf(2, 3, 5, 2, 4)
	refused := func(name string, events []impl.RemoteEvent, line []int, end int) {
		t.Helper()
		if got := checkRemote(t, c, events, line, end); !same(got, impl.RemoteRes{}) {
			t.Errorf("%s: %s", name, remoteText(got))
		}
	}
	taken := func(name string, events []impl.RemoteEvent, line []int, end int) {
		t.Helper()
		if got := checkRemote(t, c, events, line, end); len(got.Tries) == 0 {
			t.Errorf("%s is refused", name)
		}
	}
	taken("two events", comeAt(1, 2, 2, 2), nil, 30)
	taken("the ends of time", comeAt(0, 2, maxTime, 2), nil, maxTime)
	for _, times := range [][]int{{3, 3}, {3, 2}, {1, 3, 3}, {1, 3, 2}, {1, 9, 8, 10}, {-1}, {-1, 0}, {1, -1}, {math.MinInt}, {maxTime + 1}, {5, maxTime + 1}, {math.MaxInt}, {1, math.MaxInt}, {math.MinInt, math.MaxInt}, {5, 5, 5}, {maxTime, maxTime}, {maxTime, 0}} {
		var pairs []int
		for _, x := range times {
			pairs = append(pairs, x, 2)
		}
		refused(fmt.Sprintf("events at %v", times), comeAt(pairs...), nil, 30)
		refused(fmt.Sprintf("events at %v without puts", times), slices.Collect(func(yield func(impl.RemoteEvent) bool) {
			for _, x := range times {
				if !yield(impl.RemoteEvent{Time: x}) {
					return
				}
			}
		}), nil, maxTime)
	}
	taken("59 events", bigEvents(59, 1), nil, 100)
	taken("60 events", bigEvents(60, 1), nil, 100)
	refused("61 events", bigEvents(61, 1), nil, 100)
	refused("61 events without puts", append([]impl.RemoteEvent{{Time: 1, Puts: ats("up", 1, 2)}}, bigEvents(60, 0)...), nil, 100)
	refused("many events", bigEvents(3000, 1), nil, 5000)
	for _, end := range []int{0, 5, 9, 10, 100, maxTime} {
		refused("an event of 501 puts", comeAt(1, 2, 10, 501), nil, end)
		refused("events that fall", comeAt(1, 2, 20, 1, 19, 1), nil, end)
	}
	taken("an event of 499 puts", comeAt(1, 499), nil, 30)
	taken("an event of 500 puts", comeAt(1, 500), nil, 30)
	refused("an event of 501 puts", comeAt(1, 501), nil, 30)
	refused("a later event of 501 puts", comeAt(1, 2, 50, 501), nil, 30)
	taken("60 events of 500 puts", bigEvents(60, 500), nil, 300)
	for _, n := range []int{499, 500} {
		taken(fmt.Sprintf("a line of %d", n), comeAt(1, 2), make([]int, n), 30)
	}
	refused("a line of 501", comeAt(1, 2), make([]int, 501), 30)
	refused("a line of 100000", comeAt(1, 2), make([]int, 100000), 30)
	for _, n := range []int{-1, 4, 5, math.MinInt, math.MaxInt, 256, 1 << 32} {
		for _, line := range [][]int{{n}, {0, n}, {0, 1, 2, 3, n, 0}, append(make([]int, 499), n)} {
			refused(fmt.Sprintf("a line with %d", n), comeAt(1, 2), line, 30)
			refused(fmt.Sprintf("a line with %d, never asked", n), nil, line, 0)
		}
	}
	for _, end := range []int{-1, maxTime + 1, math.MinInt, math.MaxInt, -maxTime} {
		refused(fmt.Sprintf("end %d", end), comeAt(0, 2), nil, end)
	}
	taken("end 0", comeAt(0, 2), nil, 0)
	taken("end MaxTime", comeAt(0, 2), nil, maxTime)
	// Wrong arguments, each with others that are right.
	for _, end := range []int{0, 30} {
		if got := checkRemote(t, c, nil, nil, end); !same(got, impl.RemoteRes{}) {
			t.Errorf("no events: %s", remoteText(got))
		}
		if got := checkRemote(t, c, comeAt(0, 0, 5, 0), lineOf("lrb"), end); !same(got, impl.RemoteRes{}) {
			t.Errorf("events without puts: %s", remoteText(got))
		}
	}
}

// Any puts go over the line, also such as no one could log or store.
func TestRemotePutsOfAnyKind(t *testing.T) {
	var puts []impl.Put
	for i, l := range append(badLabels(), nil, []impl.Label{}, labelsOf("job", "a"), manyLabels(20), manyLabels(300)) {
		puts = append(puts, impl.Put{Labels: l, Time: edgeInts()[i%len(edgeInts())], Value: impl.StaleMark + i})
	}
	got := checkRemote(t, confOf(4, 2000, 0, 1, 1), []impl.RemoteEvent{{Time: 3, Puts: puts}}, lineOf("rlrb"), 100)
	if !same(got.Got, puts) || got.Dropped != 0 || got.Left != 0 {
		t.Errorf("%s", shortly(got))
	}
	// Puts that are alike are each their own.
	twice := ats("up", 1, 1, 1, 1)
	if got := checkRemote(t, confOf(2, 9, 0, 1, 1), []impl.RemoteEvent{{Time: 3, Puts: twice}, {Time: 4, Puts: twice}}, lineOf("rrrlb"), 100); !same(got.Got, append(twice, twice...)) {
		t.Errorf("%s", shortly(got))
	}
}

func TestRemoteQueue(t *testing.T) {
	checkRemoteCases(t, []remoteCase{
		// Just as many as the queue has room for, and one more; in one event and in several.
		{confOf(5, 3, 10, 2, 4), comeAt(1, 3), "", 30, "11:1*3o | 0-2 | 0 0"},
		{confOf(5, 3, 10, 2, 4), comeAt(1, 4), "", 30, "11:1*3o | 0-2 | 1 0"},
		{confOf(5, 3, 10, 2, 4), comeAt(1, 2, 2, 1), "", 30, "11:1*3o | 0-2 | 0 0"},
		{confOf(5, 3, 10, 2, 4), comeAt(1, 2, 2, 2), "", 30, "11:1*3o | 0-2 | 1 0"},
		{confOf(5, 3, 10, 2, 4), comeAt(1, 3, 2, 1, 10, 5), "", 30, "11:1*3o | 0-2 | 6 0"},
		{confOf(1, 1, 0, 2, 4), comeAt(1, 1), "", 30, "1:1*1o | 0-0 | 0 0"},
		// All of an event come ahead of the first batch that goes.
		{confOf(1, 1, 0, 2, 4), comeAt(1, 2), "", 30, "1:1*1o | 0-0 | 1 0"},
		{confOf(1, 3, 0, 2, 4), comeAt(1, 5), "", 30, "1:1*1o 1:2*1o 1:3*1o | 0-2 | 2 0"},
		{confOf(500, 2000, 0, 2, 4), comeAt(1, 500), "", 30, "1:1*500o | 0-499 | 0 0"},
		// What is under way is in the queue until it is acknowledged.
		{confOf(2, 3, 5, 2, 4), comeAt(1, 2, 2, 1), "l", 30, "1:1*2l 3:1*2o 7:2*1o | 0-2 | 0 0"},
		{confOf(2, 3, 5, 2, 4), comeAt(1, 2, 2, 2), "l", 30, "1:1*2l 3:1*2o 7:2*1o | 0-2 | 1 0"},
		{confOf(2, 2, 5, 2, 4), comeAt(1, 2, 2, 1), "r", 30, "1:1*2r 3:1*2o | 0-1 | 1 0"},
		{confOf(2, 2, 5, 2, 4), comeAt(1, 2, 2, 1), "b", 30, "1:1*2b 5:1*2o | 0-1 | 1 0"},
		{confOf(2, 2, 5, 2, 4), comeAt(1, 2, 2, 1), "", 30, "1:1*2o 7:2*1o | 0-2 | 0 0"},
		// At the time of the try that is acknowledged it is there still; the next event finds room.
		{confOf(2, 3, 5, 2, 4), comeAt(1, 3, 3, 1), "l", 30, "1:1*2l 3:1*2o 6:2*1o | 0-2 | 1 0"},
		{confOf(2, 3, 5, 2, 4), comeAt(1, 3, 4, 1), "l", 30, "1:1*2l 3:1*2o 4:2*2o | 0-3 | 0 0"},
		{confOf(2, 3, 5, 2, 4), comeAt(1, 3, 4, 3), "l", 30, "1:1*2l 3:1*2o 4:2*2o 9:3*1o | 0-4 | 1 0"},
		{confOf(2, 2, 5, 2, 4), comeAt(1, 2, 2, 2, 3, 2, 4, 2), "", 30, "1:1*2o 2:2*2o 3:3*2o 4:4*2o | 0-7 | 0 0"},
		// A queue that is smaller than a batch: only Wait lets it go.
		{confOf(500, 1, 3, 2, 4), comeAt(1, 500, 4, 1, 5, 1), "", 30, "4:1*1o 8:2*1o | 0-0 501-501 | 500 0"},
	})
	// The greatest queue.
	pairs := []int{1, 500, 2, 500, 3, 500, 4, 500, 5, 0}
	for _, more := range []int{0, 1} {
		pairs[9] = more
		got := checkRemote(t, confOf(500, 2000, 10000, 5000, 5000), comeAt(pairs...), lineOf("b"), maxTime)
		if len(got.Got) != 2000 || got.Dropped != more {
			t.Errorf("2000 and %d: %s", more, remoteText(got))
		}
	}
}

func TestRemoteBatches(t *testing.T) {
	c := confOf(3, 9, 10, 2, 4)
	checkRemoteCases(t, []remoteCase{
		// Just a batch, one fewer, one more.
		{c, comeAt(5, 3), "", 50, "5:1*3o | 0-2 | 0 0"},
		{c, comeAt(5, 2), "", 50, "15:1*2o | 0-1 | 0 0"},
		{c, comeAt(5, 4), "", 50, "5:1*3o 15:2*1o | 0-3 | 0 0"},
		{c, comeAt(5, 2, 9, 1), "", 50, "9:1*3o | 0-2 | 0 0"},
		{c, comeAt(5, 2, 9, 2), "", 50, "9:1*3o 19:2*1o | 0-3 | 0 0"},
		{c, comeAt(5, 1, 6, 1), "", 50, "15:1*2o | 0-1 | 0 0"},
		{confOf(1, 9, 10, 2, 4), comeAt(5, 1), "", 50, "5:1*1o | 0-0 | 0 0"},
		// Nothing waits where Wait is 0.
		{confOf(3, 9, 0, 2, 4), comeAt(5, 1), "", 50, "5:1*1o | 0-0 | 0 0"},
		{confOf(3, 9, 0, 2, 4), comeAt(5, 7), "", 50, "5:1*3o 5:2*3o 5:3*1o | 0-6 | 0 0"},
		{confOf(3, 9, 0, 2, 4), comeAt(0, 2), "", 0, "0:1*2o | 0-1 | 0 0"},
		// The first put's Wait just over, one short of it and one more.
		{c, comeAt(5, 2, 15, 1), "", 50, "15:1*3o | 0-2 | 0 0"},
		{confOf(4, 9, 10, 2, 4), comeAt(5, 2, 14, 1), "", 50, "15:1*3o | 0-2 | 0 0"},
		{confOf(4, 9, 10, 2, 4), comeAt(5, 2, 15, 1), "", 50, "15:1*3o | 0-2 | 0 0"},
		{confOf(4, 9, 10, 2, 4), comeAt(5, 2, 16, 1), "", 50, "15:1*2o 26:2*1o | 0-2 | 0 0"},
		{confOf(4, 9, 10, 2, 4), comeAt(5, 2), "", 14, " |  | 0 2"},
		{confOf(4, 9, 10, 2, 4), comeAt(5, 2), "", 15, "15:1*2o | 0-1 | 0 0"},
		{confOf(4, 9, 1, 2, 4), comeAt(5, 2), "", 50, "6:1*2o | 0-1 | 0 0"},
		{confOf(4, 9, 10000, 2, 4), comeAt(5, 2), "", 10004, " |  | 0 2"},
		{confOf(4, 9, 10000, 2, 4), comeAt(5, 2), "", 10005, "10005:1*2o | 0-1 | 0 0"},
		// More than a batch at that time cannot be; what came later goes along as far as the batch has room.
		{confOf(4, 9, 10, 2, 4), comeAt(5, 1, 15, 6), "", 50, "15:1*4o 25:2*3o | 0-6 | 0 0"},
		// Several batches at one time, one behind the other.
		{c, comeAt(5, 9), "", 50, "5:1*3o 5:2*3o 5:3*3o | 0-8 | 0 0"},
		{c, comeAt(5, 8), "", 50, "5:1*3o 5:2*3o 15:3*2o | 0-7 | 0 0"},
		// What came while another batch was under way goes at once if its Wait is over then, or else when it is.
		{c, comeAt(5, 4), "bbb", 50, "5:1*3b 9:1*3b 13:1*3b 17:1*3o 17:2*1o | 0-3 | 0 0"},
		{c, comeAt(5, 4), "bb", 50, "5:1*3b 9:1*3b 13:1*3o 15:2*1o | 0-3 | 0 0"},
		{c, comeAt(5, 3, 7, 1), "bbb", 50, "5:1*3b 9:1*3b 13:1*3b 17:1*3o 17:2*1o | 0-3 | 0 0"},
		{c, comeAt(5, 3, 8, 1), "bbb", 50, "5:1*3b 9:1*3b 13:1*3b 17:1*3o 18:2*1o | 0-3 | 0 0"},
		{c, comeAt(5, 3, 8, 3), "bbb", 50, "5:1*3b 9:1*3b 13:1*3b 17:1*3o 17:2*3o | 0-5 | 0 0"},
		// A batch stays what it was when it went, though more puts come.
		{confOf(3, 9, 1, 2, 4), comeAt(5, 1, 7, 2, 8, 3), "lb", 50, "6:1*1l 8:1*1b 12:1*1o 12:2*3o 12:3*2o | 0-5 | 0 0"},
		// A try that is due at the time of an event finds its puts in the queue.
		{c, comeAt(5, 3, 9, 3), "b", 50, "5:1*3b 9:1*3o 9:2*3o | 0-5 | 0 0"},
		{c, comeAt(5, 3, 9, 2), "b", 50, "5:1*3b 9:1*3o 19:2*2o | 0-4 | 0 0"},
		{c, comeAt(5, 3, 9, 2, 10, 1), "b", 50, "5:1*3b 9:1*3o 10:2*3o | 0-5 | 0 0"},
		// Events without puts, and at time 0.
		{c, comeAt(0, 3, 1, 0, 2, 0), "l", 50, "0:1*3l 2:1*3o | 0-2 | 0 0"},
	})
}

func TestRemoteTriesAtOneTime(t *testing.T) {
	one := confOf(1, 9, 50, 3, 7)
	checkRemoteCases(t, []remoteCase{
		{one, comeAt(5, 3), "ooo", 99, "5:1*1o 5:2*1o 5:3*1o | 0-2 | 0 0"},
		// Behind a batch that is acknowledged the next one has what the line says next.
		{one, comeAt(5, 3), "ol", 99, "5:1*1o 5:2*1l 8:2*1o 8:3*1o | 0-2 | 0 0"},
		{one, comeAt(5, 3), "oor", 99, "5:1*1o 5:2*1o 5:3*1r 8:3*1o | 0-2 | 0 0"},
		{one, comeAt(5, 3), "ob", 99, "5:1*1o 5:2*1b 12:2*1o 12:3*1o | 0-2 | 0 0"},
		{one, comeAt(5, 3), "lolbor", 99, "5:1*1l 8:1*1o 8:2*1l 11:2*1b 18:2*1o 18:3*1r 21:3*1o | 0-2 | 0 0"},
		// A batch that is not acknowledged is not tried again at once, and none goes past it.
		{one, comeAt(5, 3), "l", 7, "5:1*1l |  | 0 3"},
		{one, comeAt(5, 3), "r", 7, "5:1*1r | 0-0 | 0 3"},
		{one, comeAt(5, 3), "b", 11, "5:1*1b |  | 0 3"},
		{one, comeAt(5, 1, 6, 1, 7, 1), "l", 7, "5:1*1l |  | 0 3"},
		// A line that ends is LineOk from there on; one that is longer than the tries says no more.
		{one, comeAt(5, 5), "l", 99, "5:1*1l 8:1*1o 8:2*1o 8:3*1o 8:4*1o 8:5*1o | 0-4 | 0 0"},
		{one, comeAt(5, 1), "olrblrb", 99, "5:1*1o | 0-0 | 0 0"},
		{one, comeAt(5, 1, 6, 1), "olrb", 99, "5:1*1o 6:2*1l 9:2*1r 15:2*1b 22:2*1o | 0-1 | 0 0"},
		{confOf(2, 9, 0, 1, 1), comeAt(0, 5), "oll", 9, "0:1*2o 0:2*2l 1:2*2l 3:2*2o 3:3*1o | 0-4 | 0 0"},
	})
}

func TestRemoteRepliesThatAreLost(t *testing.T) {
	c := confOf(2, 9, 10, 3, 7)
	checkRemoteCases(t, []remoteCase{
		// A batch whose reply is lost was taken; when it comes again it is left.
		{c, comeAt(5, 2), "r", 99, "5:1*2r 8:1*2o | 0-1 | 0 0"},
		{c, comeAt(5, 2), "rr", 99, "5:1*2r 8:1*2r 14:1*2o | 0-1 | 0 0"},
		{c, comeAt(5, 2), "rrrr", 99, "5:1*2r 8:1*2r 14:1*2r 26:1*2r 50:1*2o | 0-1 | 0 0"},
		{c, comeAt(5, 2), "rr", 13, "5:1*2r 8:1*2r | 0-1 | 0 2"},
		{c, comeAt(5, 2), "r", 5, "5:1*2r | 0-1 | 0 2"},
		{c, comeAt(5, 2), "lr", 8, "5:1*2l 8:1*2r | 0-1 | 0 2"},
		{c, comeAt(5, 2), "rl", 99, "5:1*2r 8:1*2l 14:1*2o | 0-1 | 0 0"},
		{c, comeAt(5, 2), "lr", 99, "5:1*2l 8:1*2r 14:1*2o | 0-1 | 0 0"},
		{c, comeAt(5, 4), "ror", 99, "5:1*2r 8:1*2o 8:2*2r 11:2*2o | 0-3 | 0 0"},
		{c, comeAt(5, 4), "rr", 13, "5:1*2r 8:1*2r | 0-1 | 0 4"},
		// LineBusy is Busy later, and is not counted.
		{c, comeAt(5, 2), "rbl", 99, "5:1*2r 8:1*2b 15:1*2l 21:1*2o | 0-1 | 0 0"},
		{c, comeAt(5, 2), "bbbr", 99, "5:1*2b 12:1*2b 19:1*2b 26:1*2r 29:1*2o | 0-1 | 0 0"},
		{c, comeAt(5, 2), "rbbbbr", 99, "5:1*2r 8:1*2b 15:1*2b 22:1*2b 29:1*2b 36:1*2r 42:1*2o | 0-1 | 0 0"},
		{c, comeAt(5, 2), "bbbbbb", 99, "5:1*2b 12:1*2b 19:1*2b 26:1*2b 33:1*2b 40:1*2b 47:1*2o | 0-1 | 0 0"},
		// k from 1 to 6, whichever of both it is; from 4 on it grows no more.
		{c, comeAt(5, 2), "llllll", 200, "5:1*2l 8:1*2l 14:1*2l 26:1*2l 50:1*2l 74:1*2l 98:1*2o | 0-1 | 0 0"},
		{c, comeAt(5, 2), "rrrrrr", 200, "5:1*2r 8:1*2r 14:1*2r 26:1*2r 50:1*2r 74:1*2r 98:1*2o | 0-1 | 0 0"},
		{c, comeAt(5, 2), "lrlrlr", 200, "5:1*2l 8:1*2r 14:1*2l 26:1*2r 50:1*2l 74:1*2r 98:1*2o | 0-1 | 0 0"},
		{c, comeAt(5, 2), "llbllbl", 200, "5:1*2l 8:1*2l 14:1*2b 21:1*2l 33:1*2l 57:1*2b 64:1*2l 88:1*2o | 0-1 | 0 0"},
		// The next batch counts anew.
		{c, comeAt(5, 4), "lllol", 200, "5:1*2l 8:1*2l 14:1*2l 26:1*2o 26:2*2l 29:2*2o | 0-3 | 0 0"},
		{c, comeAt(5, 4), "rrol", 200, "5:1*2r 8:1*2r 14:1*2o 14:2*2l 17:2*2o | 0-3 | 0 0"},
		// The longest times there are.
		{confOf(2, 9, 10, 10000, 10000), comeAt(5, 2), "llllb", maxTime, "5:1*2l 10005:1*2l 30005:1*2l 70005:1*2l 150005:1*2b 160005:1*2o | 0-1 | 0 0"},
	})
}

// triesAtTheEnd tells the last try, and how a run ended.
func triesAtTheEnd(r impl.RemoteRes) string {
	many := len(r.Tries)
	r.Tries = r.Tries[max(0, many-1):]
	return fmt.Sprint(many, " tries, ", remoteText(r))
}

func TestRemoteTriesAtTheirLimit(t *testing.T) {
	lots := func(letter string, n int, more string) string { return strings.Repeat(letter, n) + more }
	one := confOf(1, 2000, 50, 1, 2)
	for i, x := range []remoteCase{
		// 500 batches at one time, just as many and one more.
		{one, comeAt(5, 499), "", 5000, "499 tries, 5:499*1o | 0-498 | 0 0"},
		{one, comeAt(5, 500), "", 5000, "500 tries, 5:500*1o | 0-499 | 0 0"},
		{one, comeAt(5, 500, 6, 1), "", 5000, "500 tries, 5:500*1o | 0-499 | 0 1"},
		{one, comeAt(5, 400, 6, 101), "", 5000, "500 tries, 6:500*1o | 0-499 | 0 1"},
		{one, comeAt(5, 400, 6, 101), lots("o", 500, ""), 5000, "500 tries, 6:500*1o | 0-499 | 0 1"},
		// The last try is made, whatever comes of it.
		{one, comeAt(5, 1), lots("b", 499, ""), 5000, "500 tries, 1003:1*1o | 0-0 | 0 0"},
		{one, comeAt(5, 1), lots("b", 500, ""), 5000, "500 tries, 1003:1*1b |  | 0 1"},
		{one, comeAt(5, 1), lots("b", 499, "r"), 5000, "500 tries, 1003:1*1r | 0-0 | 0 1"},
		{one, comeAt(5, 1), lots("b", 499, "l"), 5000, "500 tries, 1003:1*1l |  | 0 1"},
		{one, comeAt(5, 1), lots("b", 498, "r"), 5000, "500 tries, 1002:1*1o | 0-0 | 0 0"},
		{one, comeAt(5, 1), lots("b", 498, "rr"), 5000, "500 tries, 1002:1*1r | 0-0 | 0 1"},
		{one, comeAt(5, 1), lots("l", 500, ""), 50000, "500 tries, 3980:1*1l |  | 0 1"},
		{one, comeAt(5, 1), lots("l", 499, ""), 50000, "500 tries, 3980:1*1o | 0-0 | 0 0"},
		{one, comeAt(5, 1), lots("r", 500, ""), maxTime, "500 tries, 3980:1*1r | 0-0 | 0 1"},
		{one, comeAt(5, 2), lots("b", 499, ""), 5000, "500 tries, 1003:1*1o | 0-0 | 0 1"},
		{one, comeAt(5, 2), lots("b", 498, ""), 5000, "500 tries, 1001:2*1o | 0-1 | 0 0"},
		{one, comeAt(5, 1), lots("b", 500, ""), 1002, "499 tries, 1001:1*1b |  | 0 1"},
		{one, comeAt(5, 1), lots("b", 500, ""), 1003, "500 tries, 1003:1*1b |  | 0 1"},
		// Events still come, and are dropped where the queue is full.
		{confOf(1, 3, 50, 1, 2), comeAt(5, 1, 2000, 1, 2001, 2, 3000, 5), lots("b", 500, ""), 5000, "500 tries, 1003:1*1b |  | 6 3"},
		{confOf(1, 3, 50, 1, 2), comeAt(5, 1, 2000, 1, 2001, 2, 3000, 5), lots("b", 499, ""), 5000, "500 tries, 1003:1*1o | 0-0 | 5 3"},
		{confOf(1, 3, 50, 1, 2), comeAt(5, 1, 2000, 1, 2001, 2, 3000, 5), lots("b", 499, "r"), 2500, "500 tries, 1003:1*1r | 0-0 | 1 3"},
		{confOf(1, 3, 50, 1, 2), comeAt(5, 1, 2000, 1, 2001, 2, 3000, 5), lots("b", 499, ""), maxTime, "500 tries, 1003:1*1o | 0-0 | 5 3"},
		{confOf(9, 3, 0, 1, 2), comeAt(5, 2, 1003, 3, 1004, 1), lots("b", 499, ""), maxTime, "500 tries, 1003:1*2o | 0-1 | 2 2"},
	} {
		if got := triesAtTheEnd(checkRemote(t, x.conf, x.events, lineOf(x.line), x.end)); got != x.want {
			t.Errorf("%d: %s, not %s", i, got, x.want)
		}
	}
}

func TestRemoteEnds(t *testing.T) {
	c := confOf(2, 4, 10, 3, 7)
	checkRemoteCases(t, []remoteCase{
		// Ahead of the first event, at it, behind it.
		{c, comeAt(5, 3), "", 0, " |  | 0 0"},
		{c, comeAt(5, 9), "", 4, " |  | 0 0"},
		{c, comeAt(5, 3), "", 5, "5:1*2o | 0-1 | 0 1"},
		{c, comeAt(5, 9), "l", 5, "5:1*2l |  | 5 4"},
		{c, comeAt(5, 3), "", 14, "5:1*2o | 0-1 | 0 1"},
		{c, comeAt(5, 3), "", 15, "5:1*2o 15:2*1o | 0-2 | 0 0"},
		// Ahead of a try, just at it.
		{c, comeAt(5, 2), "l", 7, "5:1*2l |  | 0 2"},
		{c, comeAt(5, 2), "l", 8, "5:1*2l 8:1*2o | 0-1 | 0 0"},
		{c, comeAt(5, 2), "ll", 13, "5:1*2l 8:1*2l |  | 0 2"},
		{c, comeAt(5, 2), "ll", 14, "5:1*2l 8:1*2l 14:1*2o | 0-1 | 0 0"},
		{c, comeAt(5, 2), "b", 11, "5:1*2b |  | 0 2"},
		{c, comeAt(5, 2), "b", 12, "5:1*2b 12:1*2o | 0-1 | 0 0"},
		// An event behind the end does not come, not even to be dropped.
		{c, comeAt(5, 4, 8, 3), "l", 7, "5:1*2l |  | 0 4"},
		{c, comeAt(5, 4, 8, 3), "l", 8, "5:1*2l 8:1*2o 8:2*2o | 0-3 | 3 0"},
		{c, comeAt(5, 4, 8, 3), "ll", 8, "5:1*2l 8:1*2l |  | 3 4"},
		{c, comeAt(0, 2), "", 0, "0:1*2o | 0-1 | 0 0"},
		{c, comeAt(0, 1), "", 0, " |  | 0 1"},
		{c, comeAt(0, 1, 1, 1), "", 0, " |  | 0 1"},
		// At the end of all time.
		{c, comeAt(maxTime, 3), "", maxTime, fmt.Sprintf("%d:1*2o | 0-1 | 0 1", maxTime)},
		{c, comeAt(maxTime-10, 1), "", maxTime, fmt.Sprintf("%d:1*1o | 0-0 | 0 0", maxTime)},
		{c, comeAt(maxTime-9, 1), "", maxTime, " |  | 0 1"},
		{c, comeAt(maxTime-3, 2), "l", maxTime, fmt.Sprintf("%d:1*2l %d:1*2o | 0-1 | 0 0", maxTime-3, maxTime)},
		{c, comeAt(maxTime-2, 2), "l", maxTime, fmt.Sprintf("%d:1*2l |  | 0 2", maxTime-2)},
		{c, comeAt(maxTime, 3), "", maxTime - 1, " |  | 0 0"},
	})
}

// An end of MaxTime answers in good time, with few events and with as many as can be.
func TestRemoteFarEnds(t *testing.T) {
	done := make(chan bool)
	go func() {
		defer close(done)
		for range 200 {
			impl.RunRemote(confOf(2, 9, 10000, 10000, 10000), comeAt(0, 1, maxTime/2, 3, maxTime, 9), lineOf("llbrl"), maxTime)
			impl.RunRemote(confOf(1, 1, 0, 1, 1), nil, nil, maxTime)
			impl.RunRemote(confOf(1, 2000, 0, 10000, 10000), comeAt(0, 500), slices.Repeat([]int{impl.LineLost}, 500), maxTime)
		}
	}()
	select {
	case <-done:
	case <-time.After(30 * time.Second):
		t.Fatal("far ends take too long")
	}
	checkRemoteCases(t, []remoteCase{
		{confOf(2, 9, 10000, 10000, 10000), comeAt(0, 1, maxTime/2, 3), "lb", maxTime, "10000:1*1l 20000:1*1b 30000:1*1o 500000000000:2*2o 500000010000:3*1o | 0-3 | 0 0"},
		{confOf(2, 9, 7, 1, 1), comeAt(3, 1), "", maxTime, "10:1*1o | 0-0 | 0 0"},
	})
}

func letters(r *rand.Rand, n int, from string) string {
	var out strings.Builder
	for range n {
		out.WriteByte(from[r.Intn(len(from))])
	}
	return out.String()
}

// someEvents are events whose puts have Values from 0 on, with labels and Times of any kind.
func someEvents(r *rand.Rand, n int, apart int, many int) []impl.RemoteEvent {
	var out []impl.RemoteEvent
	number, time := 0, r.Intn(apart)
	for range n {
		e := impl.RemoteEvent{Time: time, Puts: fewPuts(r, r.Intn(many+1))}
		for i := range e.Puts {
			e.Puts[i].Value = number
			number++
		}
		out = append(out, e)
		time += 1 + r.Intn(apart)
	}
	return out
}

// Promise 14: whatever the line does, what is got is the first part of what came and was not dropped, in order and each once.
func TestWhatGetsOverTheLine(t *testing.T) {
	r := rand.New(rand.NewSource(142))
	dropped, left, again, whole, ahead := 0, 0, 0, 0, 0
	for range 3000 {
		c := confOf(1+r.Intn(6), 1+r.Intn(14), r.Intn(13), 1+r.Intn(5), 1+r.Intn(9))
		events := someEvents(r, r.Intn(12), 14, 8)
		line := lineOf(letters(r, r.Intn(40), []string{"olrb", "oooolrb", "lr", "ob", "rrrl"}[r.Intn(5)]))
		got := checkRemote(t, c, events, line, r.Intn(290))
		values := []int{}
		for _, p := range got.Got {
			values = append(values, p.Value)
		}
		if !slices.IsSorted(values) || len(slices.Compact(values)) != len(got.Got) {
			t.Fatalf("%v are got", values)
		}
		replies, acked := 0, 0
		for _, x := range got.Tries {
			if x.Line == impl.LineReply {
				replies++
			}
			if x.Line == impl.LineOk {
				acked += x.Many
			}
		}
		dropped, left, again = dropped+min(1, got.Dropped), left+min(1, got.Left), again+replies
		if acked < len(got.Got) {
			ahead++
		}
		if got.Left == 0 && len(got.Got) > 0 {
			whole++
		}
	}
	if dropped < 1000 || left < 600 || again < 2000 || whole < 600 || ahead < 100 {
		t.Errorf("%d with drops, %d with some left, %d lost replies, %d whole, %d got ahead of their reply", dropped, left, again, whole, ahead)
	}
}

// Promise 14: over a line that never fails all is got that came and was not dropped, when there was time.
func TestALineThatNeverFails(t *testing.T) {
	r := rand.New(rand.NewSource(143))
	for range 1000 {
		c := confOf(1+r.Intn(6), 1+r.Intn(20), r.Intn(30), 1+r.Intn(5), 1+r.Intn(9))
		events := someEvents(r, r.Intn(15), 10, 10)
		end := c.Wait
		came := 0
		for _, e := range events {
			end, came = max(end, e.Time+c.Wait), came+len(e.Puts)
		}
		got := checkRemote(t, c, events, make([]int, r.Intn(30)), end+r.Intn(2)*1000)
		if got.Left != 0 || len(got.Got)+got.Dropped != came {
			t.Fatalf("%v, %s: %s", c, shortly(events), remoteText(got))
		}
		if c.Queue = 2000; len(checkRemote(t, c, events, nil, end).Got) != came {
			t.Fatalf("%v, %s: not all is got", c, shortly(events))
		}
	}
}

// Promise 14: a line that fails for a while gets over, in the end, what came and found room.
func TestALineThatIsMended(t *testing.T) {
	r := rand.New(rand.NewSource(144))
	for range 500 {
		c := confOf(1+r.Intn(6), 2000, r.Intn(30), 1+r.Intn(5), 1+r.Intn(9))
		events := someEvents(r, r.Intn(15), 10, 10)
		got := checkRemote(t, c, events, lineOf(letters(r, r.Intn(200), "olrb")), maxTime)
		var came []impl.Put
		for _, e := range events {
			came = append(came, e.Puts...)
		}
		if !same(got.Got, came) || got.Left != 0 || got.Dropped != 0 {
			t.Fatalf("%v, %s: %s", c, shortly(events), remoteText(got))
		}
	}
}

// What a run told by an earlier end stays when time goes on.
func TestRemoteGoesOn(t *testing.T) {
	r := rand.New(rand.NewSource(145))
	for range 100 {
		c := confOf(1+r.Intn(4), 1+r.Intn(10), r.Intn(9), 1+r.Intn(4), 1+r.Intn(6))
		events, line := someEvents(r, 8, 9, 6), lineOf(letters(r, 30, "oolrb"))
		last := impl.RemoteRes{}
		for end := range 120 {
			got := impl.RunRemote(c, events, line, end)
			if len(got.Tries) < len(last.Tries) || len(got.Got) < len(last.Got) || got.Dropped < last.Dropped || !same(got.Tries[:len(last.Tries)], last.Tries) || !same(got.Got[:len(last.Got)], last.Got) {
				t.Fatalf("%v, %s, %v, %d: %s behind %s", c, shortly(events), line, end, remoteText(got), remoteText(last))
			}
			last = got
		}
	}
}

// The greatest runs, and those between: as the model says, at any kind of arguments.
func TestGreatRemotes(t *testing.T) {
	r := rand.New(rand.NewSource(146))
	pick := func(list ...int) int { return list[r.Intn(len(list))] }
	for range 60 {
		c := confOf(pick(1, 2, 7, 60, 499, 500), pick(1, 3, 500, 1999, 2000), pick(0, 1, 100, 9999, 10000), pick(1, 3, 9999, 10000), pick(1, 5, 10000))
		events := someEvents(r, pick(1, 20, 59, 60), pick(1, 5, 10000, maxTime/61), pick(3, 50, 500))
		line := lineOf(letters(r, pick(0, 50, 499, 500), []string{"olrb", "ooooolrb", "o", "rrl"}[r.Intn(4)]))
		checkRemote(t, c, events, line, pick(0, 299, 5000, 1000000, maxTime-1, maxTime))
	}
	got := checkRemote(t, confOf(500, 2000, 0, 10000, 10000), bigEvents(60, 500), nil, maxTime)
	if len(got.Got) != 30000 || len(got.Tries) != 60 {
		t.Errorf("%d got", len(got.Got))
	}
}

// Promise 27: any arguments, also wrong ones, are answered as the model says, with nothing written into and nothing left running.
func TestRemotesAtAnyArguments(t *testing.T) {
	r := rand.New(rand.NewSource(147))
	before := runtime.NumGoroutine()
	refused, ran := 0, 0
	edge := func(n int) int {
		if r.Intn(12) == 0 {
			return edgeInts()[r.Intn(len(edgeInts()))]
		}
		return n
	}
	for range 3000 {
		c := confOf(edge(1+r.Intn(5)), edge(1+r.Intn(9)), edge(r.Intn(9)), edge(1+r.Intn(5)), edge(1+r.Intn(5)))
		events, line := someEvents(r, r.Intn(6), 9, 6), lineOf(letters(r, r.Intn(8), "olrb"))
		for i := range events {
			events[i].Time = edge(events[i].Time)
		}
		for i := range line {
			line[i] = edge(line[i])
		}
		end := edge(r.Intn(200))
		if got := checkRemote(t, c, events, line, end); same(got, impl.RemoteRes{}) {
			refused++
		} else {
			ran++
		}
		if impl.GoodRemote(c) != goodRemoteModel(c) {
			t.Fatalf("GoodRemote of %v", c)
		}
	}
	if after := runtime.NumGoroutine(); after > before {
		t.Errorf("%d are running, there were %d", after, before)
	}
	if refused < 600 || ran < 600 {
		t.Errorf("%d refused, %d ran", refused, ran)
	}
}

// Promise 27: answers are new memory, also where the arguments share theirs; what is written into an answer shows nowhere.
func TestAnswersOfRemotesAreNew(t *testing.T) {
	labels := labelsOf("_name", "up", "job", "a")
	puts := []impl.Put{{Labels: labels, Time: 1}, {Labels: labels, Time: 2}, {Labels: labels[:1], Time: 3}, {Labels: labels[:0], Time: 4}}
	events := []impl.RemoteEvent{{Time: 1, Puts: puts}, {Time: 2, Puts: puts[:3]}, {Time: 9, Puts: puts}}
	line := lineOf("rlbo")
	was, lineWas := laid(events, 0), slices.Clone(line)
	c := confOf(2, 20, 3, 2, 4)
	run, parts := impl.RunRemote(c, events, line, 99), impl.SplitPuts(puts, 3)
	if len(run.Got) != 11 || len(parts) != 3 {
		t.Fatalf("%s, %v", remoteText(run), parts)
	}
	checkOwn(t, run, labels, line)
	checkOwn(t, parts, labels)
	want, wantParts := laid(run, 0), laid(parts, 0)
	scribble := func(l []impl.Put) {
		for _, p := range l {
			clear(p.Labels[:cap(p.Labels)])
		}
		clear(l[:cap(l)])
	}
	scribble(run.Got)
	clear(run.Tries[:cap(run.Tries)])
	for _, l := range parts {
		scribble(l)
	}
	clear(parts)
	if !same(events, was) || !slices.Equal(line, lineWas) {
		t.Fatal("an argument was written into")
	}
	if !same(impl.RunRemote(c, events, line, 99), want) || !same(impl.SplitPuts(puts, 3), wantParts) {
		t.Error("a second call answers otherwise")
	}
}
