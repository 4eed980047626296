package tests

import (
	"bytes"
	"fmt"
	"math"
	"math/rand"
	"slices"
	"sort"
	"strconv"
	"strings"
	"testing"

	"loop.example/g00039/impl"
)

const maxLog = 200000

// recordOf is a record of any sort and body, with the sum that it is to have.
func recordOf(sort byte, body ...[]byte) []byte {
	all := slices.Concat(body...)
	return summed(slices.Concat([]byte{sort}, varBytes(len(all)), all))
}

func numbers(list ...int) []byte {
	var out []byte
	for _, n := range list {
		out = append(out, varBytes(n)...)
	}
	return out
}

func textBytes(s string) []byte {
	return append(varBytes(len(s)), s...)
}

func seriesBody(number int, l []impl.Label) []byte {
	out := numbers(number, len(l))
	for _, x := range l {
		out = slices.Concat(out, textBytes(x.Name), textBytes(x.Value))
	}
	return out
}

func seriesRecord(number int, l []impl.Label) []byte {
	return recordOf(1, seriesBody(number, l))
}

// sampleRow is a sample as a log tells it, its value not yet in ZigZag.
type sampleRow struct {
	number, time, value int
}

func samplesRecord(rows ...sampleRow) []byte {
	out := numbers(len(rows))
	for _, x := range rows {
		out = append(out, numbers(x.number, x.time, zigZagModel(x.value))...)
	}
	return recordOf(2, out)
}

func markRecord(time int) []byte {
	return recordOf(3, numbers(time))
}

// cutVar takes a number off the front of bytes, however it is written there.
func cutVar(b *[]byte, ok *bool) int {
	n := uint64(0)
	for i, c := range *b {
		n |= uint64(c%128) << (7 * i)
		if c < 128 {
			*b = (*b)[i+1:]
			return int(n)
		}
	}
	*ok = false
	return 0
}

func cutString(b *[]byte, ok *bool) string {
	n := cutVar(b, ok)
	if n < 0 || n > len(*b) {
		*ok = false
		return ""
	}
	out := string((*b)[:n])
	*b = (*b)[n:]
	return out
}

// toldRecord is what a record says.
type toldRecord struct {
	sort, number, mark int
	labels             []impl.Label
	rows               []sampleRow
}

func (r toldRecord) bytes() []byte {
	switch r.sort {
	case 1:
		return seriesRecord(r.number, r.labels)
	case 2:
		return samplesRecord(r.rows...)
	}
	return markRecord(r.mark)
}

// recordModel reads the record at the front of data loosely, and takes it if it is written as these bytes and no others.
func recordModel(data []byte) (toldRecord, int, bool) {
	if len(data) == 0 || data[0] < 1 || data[0] > 3 {
		return toldRecord{}, 0, false
	}
	ok, rest := true, data[1:]
	body := []byte(cutString(&rest, &ok))
	r := toldRecord{sort: int(data[0])}
	switch r.sort {
	case 1:
		r.number = cutVar(&body, &ok)
		for n := cutVar(&body, &ok); ok && len(r.labels) < n; {
			name := cutString(&body, &ok)
			r.labels = append(r.labels, impl.Label{Name: name, Value: cutString(&body, &ok)})
		}
	case 2:
		for n := cutVar(&body, &ok); ok && len(r.rows) < n; {
			x := sampleRow{number: cutVar(&body, &ok)}
			x.time = cutVar(&body, &ok)
			word := uint64(cutVar(&body, &ok))
			x.value = int(word / 2)
			if word%2 == 1 {
				x.value = -x.value - 1
			}
			r.rows = append(r.rows, x)
		}
	case 3:
		r.mark = cutVar(&body, &ok)
	}
	if !ok || !bytes.HasPrefix(data, r.bytes()) {
		return toldRecord{}, 0, false
	}
	return r, len(r.bytes()), true
}

// mayStand says whether a record may stand behind these series.
func (r toldRecord) mayStand(series [][]impl.Label) bool {
	switch r.sort {
	case 1:
		return r.number == len(series)+1 && seriesLabelsModel(r.labels) && !slices.ContainsFunc(series, func(l []impl.Label) bool { return slices.Equal(l, r.labels) })
	case 2:
		return len(r.rows) >= 1 && len(r.rows) <= 500 && !slices.ContainsFunc(r.rows, func(x sampleRow) bool {
			return x.number < 1 || x.number > len(series) || x.time < 0 || x.time > maxTime
		})
	}
	return r.mark >= 0 && r.mark <= maxTime
}

// readLogModel takes record by record; of bytes beyond MaxLog it knows nothing.
func readLogModel(data []byte) impl.LogRes {
	var out impl.LogRes
	var series [][]impl.Label
	data = data[:min(maxLog, len(data))]
	for at := 0; ; {
		r, n, ok := recordModel(data[at:])
		if !ok || !r.mayStand(series) {
			return out
		}
		at += n
		if r.sort == 1 {
			series = append(series, r.labels)
			continue
		}
		batch := impl.LogBatch{Mark: r.mark}
		if r.sort == 2 {
			batch.Mark = -1
		}
		for _, x := range r.rows {
			batch.Puts = append(batch.Puts, impl.Put{Labels: series[x.number-1], Time: x.time, Value: x.value})
		}
		out = impl.LogRes{Good: at, Series: slices.Clone(series), Batches: append(out.Batches, batch)}
	}
}

// logPutModel says whether a put may be logged.
func logPutModel(p impl.Put) bool {
	return seriesLabelsModel(p.Labels) && p.Time >= 0 && p.Time <= maxTime
}

// batchModel is the batch of puts behind these series.
func batchModel(series [][]impl.Label, puts []impl.Put) []byte {
	var out []byte
	var rows []sampleRow
	series = slices.Clone(series)
	for _, p := range puts {
		i := slices.IndexFunc(series, func(l []impl.Label) bool { return slices.Equal(l, p.Labels) })
		if i < 0 {
			i = len(series)
			series = append(series, p.Labels)
			out = append(out, seriesRecord(i+1, p.Labels)...)
		}
		rows = append(rows, sampleRow{i + 1, p.Time, p.Value})
	}
	return append(out, samplesRecord(rows...)...)
}

func logPutsModel(data []byte, puts []impl.Put) []byte {
	r := readLogModel(data)
	if r.Good != len(data) || len(puts) < 1 || len(puts) > 500 || slices.ContainsFunc(puts, func(p impl.Put) bool { return !logPutModel(p) }) {
		return nil
	}
	return upTo(maxLog, slices.Concat(data, batchModel(r.Series, puts)))
}

func logMarkModel(data []byte, time int) []byte {
	if readLogModel(data).Good != len(data) || time < 0 || time > maxTime {
		return nil
	}
	return upTo(maxLog, slices.Concat(data, markRecord(time)))
}

// upTo is a text of at most n bytes, none where it has more.
func upTo(n int, data []byte) []byte {
	if len(data) > n {
		return nil
	}
	return data
}

func replayModel(window int, limit int, data []byte) impl.Head {
	if window < 0 || window > maxTime || limit < 0 || limit > 200 {
		return impl.Head{}
	}
	book := bookOf(impl.Head{Window: window, Limit: limit, Newest: -1})
	for _, b := range readLogModel(data).Batches {
		for _, p := range b.Puts {
			book.put(p)
		}
		if len(b.Puts) == 0 {
			book.newest = max(book.newest, b.Mark)
		}
	}
	return book.head()
}

// checkpointModel writes a head down sample by sample, by Time and then by series.
func checkpointModel(h impl.Head) []byte {
	if !goodHeadModel(h) {
		return nil
	}
	type place struct {
		series int
		sample impl.Sample
	}
	var all []place
	for i, s := range h.Series {
		for _, x := range s.Samples {
			all = append(all, place{i, x})
		}
	}
	sort.Slice(all, func(i, j int) bool {
		a, b := all[i], all[j]
		return a.sample.Time < b.sample.Time || a.sample.Time == b.sample.Time && a.series < b.series
	})
	var out []byte
	var series [][]impl.Label
	for len(all) > 0 {
		var puts []impl.Put
		for _, x := range all[:min(500, len(all))] {
			puts = append(puts, impl.Put{Labels: h.Series[x.series].Labels, Time: x.sample.Time, Value: x.sample.Value})
		}
		all = all[len(puts):]
		out = append(out, batchModel(series, puts)...)
		for _, p := range puts {
			if !slices.ContainsFunc(series, func(l []impl.Label) bool { return slices.Equal(l, p.Labels) }) {
				series = append(series, p.Labels)
			}
		}
	}
	if h.Newest >= 0 {
		out = append(out, markRecord(h.Newest)...)
	}
	return upTo(maxLog, out)
}

func checkReadLog(t *testing.T, data []byte) impl.LogRes {
	t.Helper()
	arg, kept := guarded(data)
	got := impl.ReadLog(arg)
	if want := readLogModel(data); !same(got, want) {
		t.Fatalf("ReadLog of %.500s:\n%.500s\nnot %.500s", fmt.Sprint(data), fmt.Sprint(got), fmt.Sprint(want))
	}
	if !kept() {
		t.Fatalf("ReadLog wrote into %.500s", fmt.Sprint(data))
	}
	checkOwn(t, got, arg)
	return got
}

func checkLogPuts(t *testing.T, data []byte, puts []impl.Put) []byte {
	t.Helper()
	arg, kept := guarded(data)
	list, listKept := guarded(puts)
	got := impl.LogPuts(arg, list)
	if want := logPutsModel(data, puts); !bytes.Equal(got, want) {
		t.Fatalf("LogPuts of %.500s and %.500s:\n%.500s\nnot %.500s", fmt.Sprint(data), fmt.Sprint(puts), fmt.Sprint(got), fmt.Sprint(want))
	}
	if !kept() || !listKept() {
		t.Fatalf("LogPuts wrote into %.500s or %.500s", fmt.Sprint(data), fmt.Sprint(puts))
	}
	checkOwn(t, got, arg, list)
	return got
}

func checkLogMark(t *testing.T, data []byte, time int) []byte {
	t.Helper()
	arg, kept := guarded(data)
	got := impl.LogMark(arg, time)
	if want := logMarkModel(data, time); !bytes.Equal(got, want) || !kept() {
		t.Fatalf("LogMark of %.500s and %d:\n%.500s\nnot %.500s", fmt.Sprint(data), time, fmt.Sprint(got), fmt.Sprint(want))
	}
	checkOwn(t, got, arg)
	return got
}

func checkReplay(t *testing.T, window int, limit int, data []byte) impl.Head {
	t.Helper()
	arg, kept := guarded(data)
	got := impl.Replay(window, limit, arg)
	if want := replayModel(window, limit, data); !same(got, want) || !kept() {
		t.Fatalf("Replay of %d, %d, %.500s:\n%.500s\nnot %.500s", window, limit, fmt.Sprint(data), fmt.Sprint(got), fmt.Sprint(want))
	}
	checkOwn(t, got, arg)
	return got
}

// checkCheckpoint holds Checkpoint against the model, and where there is a log its Replay against the head.
func checkCheckpoint(t *testing.T, h impl.Head) []byte {
	t.Helper()
	arg, kept := guarded(h)
	got := impl.Checkpoint(arg)
	if want := checkpointModel(h); !bytes.Equal(got, want) || !kept() {
		t.Fatalf("Checkpoint of %.500s:\n%.500s\nnot %.500s", fmt.Sprint(h), fmt.Sprint(got), fmt.Sprint(want))
	}
	checkOwn(t, got, arg)
	if len(got) > 0 || goodHeadModel(h) && h.Newest == -1 {
		if back := impl.Replay(h.Window, h.Limit, got); !same(back, h) {
			t.Fatalf("%.500s became %.500s", fmt.Sprint(h), fmt.Sprint(back))
		}
		if r := impl.ReadLog(got); r.Good != len(got) || len(r.Series) != len(h.Series) {
			t.Fatalf("Checkpoint of %.500s is no log: %.500s", fmt.Sprint(h), fmt.Sprint(r))
		}
	}
	return got
}

func checkCrash(t *testing.T, data []byte, n int) []byte {
	t.Helper()
	arg, kept := guarded(data)
	got := impl.CrashLog(arg, n)
	var want []byte
	if len(data) <= maxLog && n >= 0 && n <= len(data) {
		want = data[:n]
	}
	if !bytes.Equal(got, want) || !kept() {
		t.Fatalf("CrashLog of %.500s and %d: %.500s", fmt.Sprint(data), n, fmt.Sprint(got))
	}
	checkOwn(t, got, arg)
	return got
}

// goodPuts are puts that may be logged, of so few series that they meet again.
func goodPuts(r *rand.Rand, n int) []impl.Put {
	var out []impl.Put
	for len(out) < n {
		for _, p := range fewPuts(r, n) {
			if r.Intn(6) == 0 {
				p.Time, p.Value = randomTime(r), edgeValue(r)
			}
			if logPutModel(p) && len(out) < n {
				out = append(out, p)
			}
		}
	}
	return out
}

// randomLog logs batches one behind the other, and tells them and where each one ends.
func randomLog(t *testing.T, r *rand.Rand, most int) ([]byte, []impl.LogBatch, []int) {
	t.Helper()
	var data []byte
	var batches []impl.LogBatch
	var ends []int
	for range r.Intn(most + 1) {
		if r.Intn(3) == 0 {
			time := randomTime(r)
			data = checkLogMark(t, data, time)
			batches = append(batches, impl.LogBatch{Mark: time})
		} else {
			puts := goodPuts(r, 1+r.Intn(6))
			data = checkLogPuts(t, data, puts)
			batches = append(batches, impl.LogBatch{Puts: puts, Mark: -1})
		}
		ends = append(ends, len(data))
	}
	return data, batches, ends
}

// seriesIn are the labels of batches in the order in which they first come.
func seriesIn(batches []impl.LogBatch) [][]impl.Label {
	var out [][]impl.Label
	for _, b := range batches {
		for _, p := range b.Puts {
			if !slices.ContainsFunc(out, func(l []impl.Label) bool { return slices.Equal(l, p.Labels) }) {
				out = append(out, p.Labels)
			}
		}
	}
	return out
}

// Promise 8: batches that were logged come back in their order, with their series.
func TestBatchesComeBackInOrder(t *testing.T) {
	r := rand.New(rand.NewSource(81))
	puts, marks := 0, 0
	for range 300 {
		data, batches, _ := randomLog(t, r, 8)
		got := checkReadLog(t, data)
		want := impl.LogRes{Good: len(data), Series: seriesIn(batches), Batches: batches}
		if !same(got, want) {
			t.Fatalf("%v, not %v", got, want)
		}
		for _, b := range batches {
			puts += len(b.Puts)
			if len(b.Puts) == 0 {
				marks++
			}
		}
	}
	if puts < 1000 || marks < 200 {
		t.Errorf("just %d puts and %d marks", puts, marks)
	}
}

// Promise 8: a log cut at each of its bytes has just the batches that are whole ahead of the cut; what is behind Good gone, it goes on.
func TestLogsCutAtEachByte(t *testing.T) {
	r := rand.New(rand.NewSource(82))
	for range 40 {
		data, batches, ends := randomLog(t, r, 5)
		for n := range len(data) + 1 {
			cut := checkCrash(t, data, n)
			got := checkReadLog(t, cut)
			whole := 0
			for whole < len(ends) && ends[whole] <= n {
				whole++
			}
			good := 0
			if whole > 0 {
				good = ends[whole-1]
			}
			if want := (impl.LogRes{Good: good, Series: seriesIn(batches[:whole]), Batches: batches[:whole]}); !same(got, want) {
				t.Fatalf("%v cut at %d: %v, not %v", data, n, got, want)
			}
			if n%7 != 0 && n != good {
				continue
			}
			put := []impl.Put{{Labels: labelsOf("_name", "more"), Time: 5}}
			if a, b := checkLogPuts(t, cut, put), checkLogMark(t, cut, 5); (len(a) > 0) != (n == good) || (len(b) > 0) != (n == good) {
				t.Fatalf("%v cut at %d: %v, %v", data, n, a, b)
			}
			if again := checkReadLog(t, checkLogPuts(t, checkCrash(t, cut, good), put)); len(again.Batches) != whole+1 {
				t.Fatalf("%v cut at %d goes on as %v", data, n, again)
			}
		}
	}
}

// With any one bit turned just the batches ahead of the one that it stands in are there.
func TestLogsWithABitTurned(t *testing.T) {
	r := rand.New(rand.NewSource(83))
	for range 15 {
		data, _, ends := randomLog(t, r, 4)
		for i := range data {
			for bit := range 8 {
				turned := slices.Clone(data)
				turned[i] ^= 1 << bit
				got := checkReadLog(t, turned)
				whole, good := 0, 0
				for whole < len(ends) && ends[whole] <= i {
					good = ends[whole]
					whole++
				}
				if got.Good != good || len(got.Batches) != whole {
					t.Fatalf("%v with bit %d of byte %d turned: %v", data, bit, i, got)
				}
			}
		}
	}
}

// Promise 8: Replay of a log of the puts that a new head took is that head, in however many batches.
func TestReplayIsTheHeadAgain(t *testing.T) {
	r := rand.New(rand.NewSource(84))
	series, samples := 0, 0
	for range 400 {
		h := impl.NewHead([]int{0, 1, 5, 8, 100, maxTime}[r.Intn(6)], []int{0, 1, 2, 3, 5, 9, 200}[r.Intn(7)])
		var data []byte
		for range r.Intn(6) {
			puts := fewPuts(r, r.Intn(15))
			after, codes := impl.PutAll(h, puts)
			var taken []impl.Put
			for i, c := range codes {
				if c == impl.PutTaken {
					taken = append(taken, puts[i])
				}
			}
			if len(taken) > 0 {
				data = checkLogPuts(t, data, taken)
			}
			h = after
		}
		if got := checkReplay(t, h.Window, h.Limit, data); !same(got, h) {
			t.Fatalf("%v, not %v", got, h)
		}
		for _, s := range h.Series {
			series++
			samples += len(s.Samples)
		}
	}
	if series < 400 || samples < 1500 {
		t.Errorf("just %d series and %d samples", series, samples)
	}
}

// Replay takes what PutAll takes, and refuses the rest; a mark pushes Newest on, and with it what is old.
func TestReplayOfMarksAndRefusals(t *testing.T) {
	r := rand.New(rand.NewSource(85))
	for range 400 {
		data, _, _ := randomLog(t, r, 8)
		for _, window := range []int{0, 3, 20, maxTime} {
			for _, limit := range []int{0, 2, 200} {
				h := checkReplay(t, window, limit, data)
				if !impl.GoodHead(h) {
					t.Fatalf("%v is not good", h)
				}
			}
		}
	}
	up, load := labelsOf("_name", "up"), labelsOf("_name", "load")
	var data []byte
	add := func(puts ...impl.Put) { data = checkLogPuts(t, data, puts) }
	mark := func(time int) { data = checkLogMark(t, data, time) }
	see := func(newest int, times ...int) {
		t.Helper()
		h := checkReplay(t, 10, 1, data)
		var got []int
		for _, s := range h.Series {
			got = append(got, timesOf(s.Samples)...)
		}
		if h.Newest != newest || !slices.Equal(got, times) {
			t.Errorf("Newest %d, times %v", h.Newest, got)
		}
	}
	see(-1)
	mark(0)
	see(0)
	mark(20)
	see(20)
	mark(5)
	see(20)
	add(impl.Put{Labels: up, Time: 9}, impl.Put{Labels: up, Time: 10, Value: 1}, impl.Put{Labels: load, Time: 15}, impl.Put{Labels: up, Time: 10, Value: 2})
	see(20, 10)
	add(impl.Put{Labels: up, Time: 30})
	see(30, 10, 30)
	mark(40)
	add(impl.Put{Labels: up, Time: 29}, impl.Put{Labels: up, Time: 31})
	see(40, 10, 30, 31)
	mark(maxTime)
	add(impl.Put{Labels: up, Time: maxTime - 10}, impl.Put{Labels: up, Time: maxTime - 11}, impl.Put{Labels: load, Time: maxTime})
	see(maxTime, 10, 30, 31, maxTime-10)
	if h := checkReplay(t, 10, 2, data); len(h.Series) != 2 || !slices.Equal(timesOf(h.Series[0].Samples), []int{15, maxTime}) {
		t.Errorf("with room for both: %v", h)
	}
}

func TestReplayOfWrongArguments(t *testing.T) {
	data := impl.LogMark(impl.LogPuts(nil, []impl.Put{{Labels: labelsOf("_name", "up"), Time: 7, Value: -7}}), 9)
	r := rand.New(rand.NewSource(86))
	noise := make([]byte, 300)
	r.Read(noise)
	long := append(slices.Clone(data), make([]byte, maxLog)...)
	for _, window := range []int{math.MinInt, -1, 0, 1, 77, maxTime - 1, maxTime, maxTime + 1, math.MaxInt} {
		for _, limit := range []int{math.MinInt, -1, 0, 1, 77, 199, 200, 201, math.MaxInt} {
			fine := window >= 0 && window <= maxTime && limit >= 0 && limit <= 200
			h := checkReplay(t, window, limit, data)
			if !fine && !same(h, impl.Head{}) || fine && (h.Window != window || h.Limit != limit || h.Newest != 9 || len(h.Series) != min(limit, 1)) {
				t.Errorf("%d, %d: %v", window, limit, h)
			}
			for _, bad := range [][]byte{nil, {}, {0}, {1}, {2}, {3}, {255}, noise, data[:len(data)-8][:10], data[1:]} {
				if h := checkReplay(t, window, limit, bad); !same(h, impl.NewHead(window, limit)) {
					t.Errorf("%d, %d, no log: %v", window, limit, h)
				}
			}
		}
	}
	if h := checkReplay(t, 5, 5, long); !same(h, impl.Replay(5, 5, data)) || h.Newest != 9 {
		t.Errorf("beyond MaxLog: %v", h)
	}
	if h := checkReplay(t, 5, 5, append(slices.Clone(data), noise...)); !same(h, impl.Replay(5, 5, data)) {
		t.Errorf("a log and noise: %v", h)
	}
}

// Promise 8: Replay of a good head's Checkpoint is the head again.
func TestCheckpointIsTheHeadAgain(t *testing.T) {
	r := rand.New(rand.NewSource(87))
	for range 600 {
		checkCheckpoint(t, fewHead(r))
	}
	up := []impl.Series{series("up", steadySamples(3, 5, 5, -1)...)}
	for _, h := range []impl.Head{
		{}, {Newest: -1}, {Window: maxTime, Limit: 200, Newest: -1}, {Window: 5, Limit: 5, Newest: 0}, {Window: 5, Limit: 5, Newest: 77}, {Limit: 200, Newest: maxTime},
		{Limit: 1, Newest: 15, Series: up}, {Limit: 1, Newest: 16, Series: up}, {Limit: 1, Newest: maxTime, Series: up}, {Window: maxTime, Limit: 200, Newest: 1000, Series: up},
		{Limit: 200, Newest: 199, Series: manySeries(200)}, {Limit: 200, Newest: maxTime, Series: manySeries(199)},
		{Limit: 1, Newest: maxTime, Series: []impl.Series{series("a", impl.Sample{Value: math.MinInt}, impl.Sample{Time: maxTime, Value: math.MaxInt})}},
		{Limit: 1, Newest: 0, Series: []impl.Series{series("a", impl.Sample{})}},
		{Limit: 2, Newest: 3000, Series: []impl.Series{series("a", steadySamples(2000, 0, 1, 1)...), series("b", steadySamples(2000, 500, 1, -1)...)}},
	} {
		data := checkCheckpoint(t, h)
		if len(data) == 0 && h.Newest != -1 {
			t.Errorf("no log of %v", h)
		}
		res := checkReadLog(t, data)
		if n := len(res.Batches); h.Newest >= 0 && (res.Batches[n-1].Mark != h.Newest || len(res.Batches[n-1].Puts) > 0) || h.Newest < 0 && n > 0 {
			t.Errorf("its mark: %v", h)
		}
	}
}

// Samples stand in a Checkpoint by Time and then by the order of their series, MaxPuts in each batch but the last.
func TestCheckpointsOfManySamples(t *testing.T) {
	for _, n := range []int{1, 499, 500, 501, 999, 1000, 1001, 1500} {
		h := impl.Head{Limit: 3, Newest: maxTime}
		for i := range 3 {
			if many := n/3 + min(1, max(0, n%3-i)); many > 0 {
				h.Series = append(h.Series, series("s"+strconv.Itoa(i), steadySamples(many, 7-i, 2+i, i-1)...))
			}
		}
		var sizes []int
		var last impl.Put
		for _, b := range checkReadLog(t, checkCheckpoint(t, h)).Batches {
			sizes = append(sizes, len(b.Puts))
			for _, p := range b.Puts {
				if p.Time < last.Time || p.Time == last.Time && compareModel(last.Labels, p.Labels) != -1 {
					t.Fatalf("%d samples: %v behind %v", n, p, last)
				}
				last = p
			}
		}
		want := slices.Repeat([]int{500}, n/500)
		if n%500 > 0 {
			want = append(want, n%500)
		}
		if want = append(want, 0); !slices.Equal(sizes, want) {
			t.Errorf("%d samples in batches of %v", n, sizes)
		}
	}
	h := impl.Head{Limit: 3, Newest: 9, Series: []impl.Series{series("a", impl.Sample{Time: 5, Value: 1}, impl.Sample{Time: 7, Value: 2}), series("b", impl.Sample{Time: 3, Value: 3}, impl.Sample{Time: 7, Value: 4}), series("c", impl.Sample{Time: 3, Value: 5})}}
	want := slices.Concat(
		seriesRecord(1, labelsOf("_name", "b")), seriesRecord(2, labelsOf("_name", "c")), seriesRecord(3, labelsOf("_name", "a")),
		samplesRecord(sampleRow{1, 3, 3}, sampleRow{2, 3, 5}, sampleRow{3, 5, 1}, sampleRow{3, 7, 2}, sampleRow{1, 7, 4}), markRecord(9))
	if got := checkCheckpoint(t, h); !bytes.Equal(got, want) {
		t.Errorf("%v, not %v", got, want)
	}
}

// longHead is a good head whose Checkpoint has just so many bytes, by the lengths of its values.
func longHead(t *testing.T, size int) impl.Head {
	h := impl.Head{Limit: 200, Newest: 500, Series: manySeries(200)}
	for i := range h.Series {
		for j := range 19 {
			h.Series[i].Labels = append(h.Series[i].Labels, impl.Label{Name: "n" + strconv.Itoa(10+j), Value: strings.Repeat("v", 45)})
		}
	}
	long := len(batchOfHead(h)) + len(markRecord(h.Newest))
	if long >= size || size-long > 200*19*50 {
		t.Fatalf("%d bytes, %d asked for", long, size)
	}
	for i := range h.Series {
		for j := range 19 {
			more := min(size-long, 50)
			h.Series[i].Labels[j+1].Value += strings.Repeat("w", more)
			long += more
		}
	}
	return h
}

// batchOfHead is the one batch of a head with few samples in the order of their series.
func batchOfHead(h impl.Head) []byte {
	var puts []impl.Put
	for _, s := range h.Series {
		puts = append(puts, impl.Put{Labels: s.Labels, Time: s.Samples[0].Time, Value: s.Samples[0].Value})
	}
	return batchModel(nil, puts)
}

func TestCheckpointsAtMaxLog(t *testing.T) {
	for _, c := range []struct {
		size int
		fits bool
	}{{maxLog - 1, true}, {maxLog, true}, {maxLog + 1, false}, {maxLog + 7, false}, {maxLog + 8, false}, {maxLog + 1000, false}} {
		h := longHead(t, c.size)
		if got := checkCheckpoint(t, h); len(got) > 0 != c.fits || c.fits && len(got) != c.size {
			t.Errorf("%d bytes: %d", c.size, len(got))
		}
		if !c.fits {
			continue
		}
		if res := checkReadLog(t, impl.Checkpoint(h)); res.Good != c.size || len(res.Series) != 200 {
			t.Errorf("%d bytes: %d are good", c.size, res.Good)
		}
	}
	full := impl.Head{Window: maxTime, Limit: 200, Newest: 3000, Series: manySeries(200)}
	for i := range full.Series {
		full.Series[i].Samples = steadySamples(2000, i, 1, i)
	}
	if got := impl.Checkpoint(full); len(got) > 0 {
		t.Errorf("the greatest head: %d bytes", len(got))
	}
	for i, h := range badHeads() {
		if got := checkCheckpoint(t, h); len(got) > 0 {
			t.Errorf("bad head %d: %v", i, got)
		}
	}
}

// smallLog is a log of two batches, with two series; where each batch ends is told too.
func smallLog() ([]byte, []int) {
	first := slices.Concat(seriesRecord(1, labelsOf("_name", "up")), samplesRecord(sampleRow{1, 5, -1}))
	second := slices.Concat(seriesRecord(2, labelsOf("_name", "load", "job", "a")), samplesRecord(sampleRow{2, 6, 0}, sampleRow{1, 6, 2}))
	return slices.Concat(first, second), []int{len(first), len(first) + len(second)}
}

// A batch whose last record is missing: records of sort 1 with nothing right behind them are no batch.
func TestSeriesAloneAreNoBatch(t *testing.T) {
	log, ends := smallLog()
	new3, new4 := seriesRecord(3, labelsOf("_name", "c")), seriesRecord(4, labelsOf("_name", "d"))
	samples, mark := samplesRecord(sampleRow{3, 9, 9}), markRecord(9)
	turned := slices.Clone(samples)
	turned[3] ^= 1
	for _, ahead := range [][]byte{log, log[:ends[0]], nil} {
		base := checkReadLog(t, ahead)
		if base.Good != len(ahead) {
			t.Fatal(base)
		}
		n := len(base.Series)
		one, two := seriesRecord(n+1, labelsOf("_name", "c")), seriesRecord(n+2, labelsOf("_name", "d"))
		both := slices.Concat(one, two)
		for _, behind := range [][]byte{
			one, both, one[:len(one)-1], both[:len(both)-1],
			slices.Concat(one, turned), slices.Concat(both, turned), slices.Concat(one, turned, samples), slices.Concat(one, samplesRecord(sampleRow{n + 1, 9, 9})[:9]),
			slices.Concat(one, samplesRecord()), slices.Concat(both, samplesRecord(sampleRow{n + 3, 9, 9})), slices.Concat(one, samplesRecord(sampleRow{n + 2, 9, 9})), slices.Concat(both, markRecord(maxTime+1)), slices.Concat(both, recordOf(4), mark), slices.Concat(both, mark[:len(mark)-1]),
			slices.Concat(one, one, mark), slices.Concat(one, one, samplesRecord(sampleRow{n + 1, 9, 9})), slices.Concat(two, mark), slices.Concat(two, one, mark),
		} {
			data := slices.Concat(ahead, behind)
			if got := checkReadLog(t, data); !same(got, base) {
				t.Errorf("%v behind %d bytes: %v", behind, len(ahead), got)
			}
			if a, b := checkLogPuts(t, data, []impl.Put{{Labels: labelsOf("_name", "x")}}), checkLogMark(t, data, 9); len(a)+len(b) > 0 {
				t.Errorf("%v behind %d bytes goes on: %v, %v", behind, len(ahead), a, b)
			}
			if h := checkReplay(t, 100, 100, data); !same(h, impl.Replay(100, 100, ahead)) {
				t.Errorf("%v behind %d bytes: %v", behind, len(ahead), h)
			}
		}
	}
	// With a mark or samples behind them they are told, though no sample is theirs.
	for _, end := range [][]byte{mark, samplesRecord(sampleRow{1, 9, 9}), samplesRecord(sampleRow{4, 9, 9})} {
		data := slices.Concat(log, new3, new4, end)
		if got := checkReadLog(t, data); got.Good != len(data) || len(got.Series) != 4 || len(got.Batches) != 3 {
			t.Errorf("%v: %v", end, got)
		}
		if got := checkReadLog(t, slices.Concat(data, seriesRecord(5, labelsOf("_name", "e")))); got.Good != len(data) || len(got.Series) != 4 {
			t.Errorf("%v and one series more: %v", end, got)
		}
	}
}

// wrongRecord is a batch that is not right behind the small log, and one beside it that is.
type wrongRecord struct {
	name         string
	wrong, right []byte
}

func wrongRecords() []wrongRecord {
	l := labelsOf("_name", "c")
	mark := markRecord(9)
	behind := func(r []byte) []byte { return slices.Concat(r, mark) }
	newSeries := behind(seriesRecord(3, l))
	sample := samplesRecord(sampleRow{1, 9, 1})
	series := func(body ...[]byte) []byte { return behind(recordOf(1, body...)) }
	samples := func(body ...[]byte) []byte { return recordOf(2, body...) }
	rows := func(n int) []byte { return samplesRecord(slices.Repeat([]sampleRow{{2, 9, 1}}, n)...) }
	fine := textBytes("_name")
	sumOf := func(data []byte, i int) []byte {
		out := slices.Clone(data)
		out[len(out)-4+i]++
		return out
	}
	otherOrder := slices.Clone(sample)
	slices.Reverse(otherOrder[len(otherOrder)-4:])
	out := []wrongRecord{
		{"sort 0", recordOf(0, numbers(9)), mark},
		{"sort 4", recordOf(4, numbers(9)), mark},
		{"sort 131", recordOf(131, numbers(9)), mark},
		{"sort 255", recordOf(255, numbers(9)), mark},
		{"samples under sort 1", recordOf(1, numbers(1, 1, 9, 2)), sample},
		{"samples under sort 3", recordOf(3, numbers(1, 1, 9, 2)), sample},
		{"a mark under sort 2", recordOf(2, numbers(9)), mark},
		{"a series under sort 2", behind(recordOf(2, seriesBody(3, l))), newSeries},
		{"its sum the other way round", otherOrder, sample},
		{"a sum of the body alone", slices.Concat([]byte{3, 1, 9}, summed([]byte{9})[1:]), mark},
		{"no sum", []byte{3, 1, 9}, mark},
		{"a length in more pieces", summed([]byte{3, 129, 0, 9}), mark},
		{"a length in many pieces", summed([]byte{3, 129, 128, 128, 128, 128, 128, 128, 128, 128, 0, 9}), mark},
		{"a length below 0", summed(slices.Concat([]byte{3}, numbers(-1), []byte{9})), mark},
		{"the least length", summed(slices.Concat([]byte{3}, numbers(math.MinInt), []byte{9})), mark},
		{"the greatest length", summed(slices.Concat([]byte{3}, numbers(math.MaxInt), []byte{9})), mark},
		{"a length that wraps", summed(slices.Concat([]byte{3}, numbers(math.MaxInt-6), []byte{9})), mark},
		{"a length that is one too great", summed([]byte{3, 2, 9}), mark},
		{"a length that is one too small", summed([]byte{3, 0, 9}), mark},
		{"a length that never ends", bytes.Repeat([]byte{129}, 20), mark},

		{"a mark with nothing", recordOf(3), mark},
		{"a mark with something left over", recordOf(3, numbers(9, 9)), mark},
		{"a mark in more pieces", recordOf(3, []byte{137, 0}), mark},
		{"a mark that is cut", recordOf(3, []byte{137}), mark},
		{"a mark beyond MaxTime", markRecord(maxTime + 1), markRecord(maxTime)},
		{"a mark below 0", markRecord(-1), markRecord(0)},
		{"the least mark", markRecord(math.MinInt), mark},
		{"the greatest mark", markRecord(math.MaxInt), mark},

		{"series number 2", behind(seriesRecord(2, l)), newSeries},
		{"series number 4", behind(seriesRecord(4, l)), newSeries},
		{"series number 0", behind(seriesRecord(0, l)), newSeries},
		{"series number 1", behind(seriesRecord(1, l)), newSeries},
		{"series number -3", behind(seriesRecord(-3, l)), newSeries},
		{"the second series number 3", behind(slices.Concat(seriesRecord(3, l), seriesRecord(3, labelsOf("_name", "d")))), behind(slices.Concat(seriesRecord(3, l), seriesRecord(4, labelsOf("_name", "d"))))},
		{"a series' number in more pieces", series([]byte{131, 0, 1}, fine, textBytes("c")), newSeries},
		{"a series with nothing", series(), newSeries},
		{"a series of a number alone", series(numbers(3)), newSeries},
		{"a series with no labels", behind(seriesRecord(3, nil)), newSeries},
		{"a series with fewer labels than it says", series(numbers(3, 2), fine, textBytes("c")), newSeries},
		{"a series with more labels than it says", series(numbers(3, 0), fine, textBytes("c")), newSeries},
		{"a series with very many labels", series(numbers(3, math.MaxInt), fine, textBytes("c")), newSeries},
		{"a series with labels below 0", series(numbers(3, -1), fine, textBytes("c")), newSeries},
		{"a series with -1 labels and nothing else", series(numbers(3, -1)), newSeries},
		{"a series' labels in more pieces", series([]byte{3, 129, 0}, fine, textBytes("c")), newSeries},
		{"a series with something left over", series(seriesBody(3, l), []byte{0}), newSeries},
		{"a series with much left over", series(seriesBody(3, l), seriesBody(3, l)), newSeries},
		{"a series that is cut", series(seriesBody(3, l)[:8]), newSeries},
		{"a series without its last byte", series(seriesBody(3, labelsOf("_name", "cc"))[:10]), newSeries},
		{"a name's length in more pieces", series(numbers(3, 1), []byte{133, 0}, []byte("_name"), textBytes("c")), newSeries},
		{"a value's length in more pieces", series(numbers(3, 1), fine, []byte{129, 0}, []byte("c")), newSeries},
		{"a name's length below 0", series(numbers(3, 1, -1), []byte("_name"), textBytes("c")), newSeries},
		{"the greatest length of a value", series(numbers(3, 1), fine, numbers(math.MaxInt), []byte("c")), newSeries},
		{"a value's length that is one too great", series(numbers(3, 1), fine, numbers(2), []byte("c")), newSeries},
		{"a series that stands ahead", behind(seriesRecord(3, labelsOf("_name", "up"))), newSeries},
		{"another series that stands ahead", behind(seriesRecord(3, labelsOf("_name", "load", "job", "a"))), behind(seriesRecord(3, labelsOf("_name", "load", "job", "b")))},
		{"a series that stands ahead in its batch", behind(slices.Concat(seriesRecord(3, l), seriesRecord(4, l))), newSeries},
		{"labels without _name", behind(seriesRecord(3, labelsOf("job", "a"))), behind(seriesRecord(3, labelsOf("_name", "x", "job", "a")))},
		{"labels with _Name", behind(seriesRecord(3, labelsOf("_Name", "a"))), newSeries},
		{"21 labels", behind(seriesRecord(3, append(labelsOf("_name", "a"), manyLabels(20)...))), behind(seriesRecord(3, append(labelsOf("_name", "a"), manyLabels(19)...)))},

		{"no samples", samplesRecord(), rows(1)},
		{"samples with nothing", samples(), sample},
		{"501 samples", rows(501), rows(500)},
		{"-1 samples", samples(numbers(-1, 1, 9, 2)), sample},
		{"-1 samples and nothing else", samples(numbers(-1)), sample},
		{"very many samples", samples(numbers(math.MaxInt, 1, 9, 2)), sample},
		{"fewer samples than it says", samples(numbers(2, 1, 9, 2)), sample},
		{"more samples than it says", samples(numbers(1, 1, 9, 2, 1, 9, 2)), sample},
		{"samples with something left over", samples(numbers(1, 1, 9, 2, 0)), sample},
		{"a sample without its value", samples(numbers(1, 1, 9)), sample},
		{"a sample without its time", samples(numbers(1, 1)), sample},
		{"how many in more pieces", samples([]byte{129, 0, 1, 9, 2}), sample},
		{"a number in more pieces", samples([]byte{1, 129, 0, 9, 2}), sample},
		{"a time in more pieces", samples([]byte{1, 1, 137, 0, 2}), sample},
		{"a value in more pieces", samples([]byte{1, 1, 9, 130, 0}), sample},
		{"a value that is cut", samples([]byte{1, 1, 9, 130}), sample},
		{"a value of too many bits", samples(numbers(1, 1, 9), []byte{255, 255, 255, 255, 255, 255, 255, 255, 255, 2}), samples(numbers(1, 1, 9), []byte{255, 255, 255, 255, 255, 255, 255, 255, 255, 1})},
		{"a value of eleven pieces", samples(numbers(1, 1, 9), []byte{255, 255, 255, 255, 255, 255, 255, 255, 255, 129, 0}), sample},
		{"series 0", samplesRecord(sampleRow{0, 9, 1}), sample},
		{"series 3", samplesRecord(sampleRow{3, 9, 1}), samplesRecord(sampleRow{2, 9, 1})},
		{"series -1", samplesRecord(sampleRow{-1, 9, 1}), sample},
		{"series of the greatest number", samplesRecord(sampleRow{math.MaxInt, 9, 1}), sample},
		{"a series that stands behind", slices.Concat(samplesRecord(sampleRow{3, 9, 1}), seriesRecord(3, l)), slices.Concat(seriesRecord(3, l), samplesRecord(sampleRow{3, 9, 1}))},
		{"series 3 at last", samplesRecord(sampleRow{2, 9, 1}, sampleRow{1, 9, 1}, sampleRow{3, 9, 1}), samplesRecord(sampleRow{2, 9, 1}, sampleRow{1, 9, 1}, sampleRow{2, 9, 1})},
		{"a time beyond MaxTime", samplesRecord(sampleRow{1, maxTime + 1, 1}), samplesRecord(sampleRow{1, maxTime, 1})},
		{"a time below 0", samplesRecord(sampleRow{1, -1, 1}), samplesRecord(sampleRow{1, 0, 1})},
		{"the least time", samplesRecord(sampleRow{1, math.MinInt, 1}), sample},
		{"the greatest time", samplesRecord(sampleRow{1, math.MaxInt, 1}), sample},
		{"a wrong time at last", samplesRecord(sampleRow{1, 9, 1}, sampleRow{1, maxTime + 1, 1}), samplesRecord(sampleRow{1, 9, 1}, sampleRow{1, maxTime, 1})},
	}
	for i := range 4 {
		out = append(out, wrongRecord{"a mark's sum, byte " + strconv.Itoa(i), sumOf(mark, i), mark},
			wrongRecord{"a sample's sum, byte " + strconv.Itoa(i), sumOf(sample, i), sample},
			wrongRecord{"a series' sum, byte " + strconv.Itoa(i), behind(sumOf(seriesRecord(3, l), i)), newSeries})
	}
	for i, bad := range badLabels() {
		out = append(out, wrongRecord{"bad labels " + strconv.Itoa(i), behind(seriesRecord(3, append(labelsOf("_name", "a"), bad...))), newSeries})
	}
	return out
}

// Records that are not right: what stands whole and right ahead of them is told, and nothing else.
func TestRecordsThatAreNotRight(t *testing.T) {
	log, _ := smallLog()
	base := checkReadLog(t, log)
	if base.Good != len(log) || len(base.Series) != 2 || len(base.Batches) != 2 {
		t.Fatal(base)
	}
	for _, c := range wrongRecords() {
		right := slices.Concat(log, c.right)
		if got := checkReadLog(t, right); got.Good != len(right) || len(got.Batches) != 3 {
			t.Errorf("beside %s: %v", c.name, got)
		}
		for _, behind := range [][]byte{nil, markRecord(9), samplesRecord(sampleRow{1, 9, 1}), c.right, {0}, make([]byte, 20)} {
			data := slices.Concat(log, c.wrong, behind)
			if got := checkReadLog(t, data); !same(got, base) {
				t.Errorf("%s: %v", c.name, got)
			}
			if a, b := checkLogPuts(t, data, []impl.Put{{Labels: labelsOf("_name", "x")}}), checkLogMark(t, data, 9); len(a)+len(b) > 0 {
				t.Errorf("%s: goes on as %v, %v", c.name, a, b)
			}
		}
		if h := checkReplay(t, 100, 100, slices.Concat(log, c.wrong, c.right)); !same(h, impl.Replay(100, 100, log)) {
			t.Errorf("%s: %v", c.name, h)
		}
		// A batch that stands between is told.
		if got := checkReadLog(t, slices.Concat(log, markRecord(1), c.wrong)); len(got.Batches) != 3 || got.Batches[2].Mark != 1 {
			t.Errorf("%s behind a mark: %v", c.name, got)
		}
	}
}

// noiseBytes are any bytes, small ones more often.
func noiseBytes(r *rand.Rand) []byte {
	noise := make([]byte, r.Intn(60))
	for i := range noise {
		noise[i] = byte(r.Intn(1 << (1 + r.Intn(8))))
	}
	return noise
}

// Bytes near to those of logs, with sums that are right.
func TestLogsChangedAtRandom(t *testing.T) {
	r := rand.New(rand.NewSource(88))
	log, ends := smallLog()
	more, less := 0, 0
	for range 30000 {
		body := slices.Concat(numbers(2, 1, 9, 1, 2, 9, 1))
		sort := byte(2)
		switch r.Intn(3) {
		case 0:
			body, sort = seriesBody(3, labelsOf("_name", "c", "job", "d")), 1
		case 1:
			body, sort = numbers(300), 3
		}
		for range r.Intn(3) {
			i := r.Intn(len(body))
			switch r.Intn(4) {
			case 0:
				body = slices.Delete(body, i, i+1)
			case 1:
				body = slices.Insert(body, i, byte(r.Intn(4)))
			case 2:
				body[i] = byte(r.Intn(256))
			default:
				body[i] = byte(r.Intn(5))
			}
			if len(body) == 0 {
				body = []byte{0}
			}
		}
		got := checkReadLog(t, slices.Concat(log, recordOf(sort, body), markRecord(5)))
		if got.Good > ends[1] {
			more++
		} else {
			less++
		}
	}
	if more < 3000 || less < 3000 {
		t.Errorf("%d with more, %d without", more, less)
	}
	for range 3000 {
		noise := noiseBytes(r)
		checkReadLog(t, noise)
		checkReadLog(t, slices.Concat(log, noise))
	}
}

func TestLoggedSeriesHaveOneRecord(t *testing.T) {
	a, b, c := labelsOf("_name", "a"), labelsOf("_name", "b"), labelsOf("_name", "a", "job", "x")
	put := func(l []impl.Label, time int, value int) impl.Put {
		return impl.Put{Labels: l, Time: time, Value: value}
	}
	first := checkLogPuts(t, nil, []impl.Put{put(b, 1, 1), put(a, 2, 2), put(b, 1, 1), put(b, 0, -3), put(a, 9, 4)})
	want := slices.Concat(seriesRecord(1, b), seriesRecord(2, a), samplesRecord(sampleRow{1, 1, 1}, sampleRow{2, 2, 2}, sampleRow{1, 1, 1}, sampleRow{1, 0, -3}, sampleRow{2, 9, 4}))
	if !bytes.Equal(first, want) {
		t.Errorf("%v, not %v", first, want)
	}
	second := checkLogPuts(t, first, []impl.Put{put(a, 1, 1), put(c, 2, 2), put(b, 3, 3), put(c, 4, 4)})
	want = slices.Concat(first, seriesRecord(3, c), samplesRecord(sampleRow{2, 1, 1}, sampleRow{3, 2, 2}, sampleRow{1, 3, 3}, sampleRow{3, 4, 4}))
	if !bytes.Equal(second, want) {
		t.Errorf("%v, not %v", second, want)
	}
	third := checkLogPuts(t, checkLogMark(t, second, 77), []impl.Put{put(a, maxTime, 0)})
	if !bytes.Equal(third, slices.Concat(second, markRecord(77), samplesRecord(sampleRow{2, maxTime, 0}))) {
		t.Errorf("%v", third)
	}
	// A series that a mark's batch brought is known, too.
	brought := slices.Concat(seriesRecord(1, a), markRecord(5))
	if got := checkLogPuts(t, brought, []impl.Put{put(b, 1, 1), put(a, 1, 1)}); !bytes.Equal(got, slices.Concat(brought, seriesRecord(2, b), samplesRecord(sampleRow{2, 1, 1}, sampleRow{1, 1, 1}))) {
		t.Errorf("%v", got)
	}
	// Labels whose hashes are alike are those of series of their own.
	var puts []impl.Put
	for i, l := range append(alikeLabels(), alikeLabels()...) {
		puts = append(puts, put(l, i, i))
	}
	if got := checkReadLog(t, checkLogPuts(t, nil, puts)); len(got.Series) != 4 || !same(got.Batches[0].Puts, puts) {
		t.Errorf("%v", got)
	}
}

func TestLoggedValuesAndTimes(t *testing.T) {
	up := labelsOf("_name", "up")
	var data []byte
	var want []impl.LogBatch
	for _, v := range edgeInts() {
		if data = impl.LogPuts(data, []impl.Put{{Labels: up, Time: 5, Value: v}}); len(data) == 0 {
			t.Fatal(v)
		}
		want = append(want, impl.LogBatch{Puts: []impl.Put{{Labels: up, Time: 5, Value: v}}, Mark: -1})
	}
	for _, v := range []int{math.MaxInt, math.MinInt, impl.StaleMark, 0, -1, 1, 63, 64, -64, -65} {
		data = checkLogPuts(t, data, []impl.Put{{Labels: up, Time: 5, Value: v}})
		want = append(want, impl.LogBatch{Puts: []impl.Put{{Labels: up, Time: 5, Value: v}}, Mark: -1})
	}
	if got := checkReadLog(t, data); !same(got, impl.LogRes{Good: len(data), Series: [][]impl.Label{up}, Batches: want}) {
		t.Errorf("%.500s", fmt.Sprint(got))
	}
	for _, time := range append(edgeInts(), maxTime-1, maxTime, maxTime+1, -maxTime) {
		fine := time >= 0 && time <= maxTime
		a, b := checkLogPuts(t, nil, []impl.Put{{Labels: up, Time: time}}), checkLogMark(t, nil, time)
		if len(a) > 0 != fine || len(b) > 0 != fine {
			t.Errorf("time %d: %v, %v", time, a, b)
		}
	}
}

func TestPutsThatAreNotLogged(t *testing.T) {
	log, ends := smallLog()
	up := impl.Put{Labels: labelsOf("_name", "up"), Time: 5}
	bad := []impl.Put{{}, {Time: 5}, {Labels: labelsOf("job", "a"), Time: 5}, {Labels: labelsOf("_name", ""), Time: 5}, {Labels: up.Labels, Time: -1}, {Labels: up.Labels, Time: maxTime + 1}, {Labels: up.Labels, Time: math.MinInt}, {Labels: up.Labels, Time: math.MaxInt}, {Labels: append(labelsOf("_name", "a"), manyLabels(20)...)}, {Labels: labelsOf("_name", "a", "_name", "b")}, {Labels: labelsOf("a", "x", "_name", "b")}}
	for _, l := range badLabels() {
		bad = append(bad, impl.Put{Labels: append(labelsOf("_name", "a"), l...), Time: 5})
	}
	for i, p := range bad {
		for _, puts := range [][]impl.Put{{p}, {up, p}, {p, up}, {up, p, up}} {
			for _, data := range [][]byte{nil, log} {
				if got := checkLogPuts(t, data, puts); len(got) > 0 {
					t.Errorf("bad put %d: %v", i, got)
				}
			}
		}
	}
	for _, none := range [][]impl.Put{nil, {}} {
		if got := checkLogPuts(t, log, none); len(got) > 0 {
			t.Errorf("no puts: %v", got)
		}
	}
	// A log whose Good is not all of its bytes.
	for n := range len(log) + 1 {
		fine := n == 0 || slices.Contains(ends, n)
		if a, b := checkLogPuts(t, log[:n], []impl.Put{up}), checkLogMark(t, log[:n], 5); len(a) > 0 != fine || len(b) > 0 != fine {
			t.Errorf("cut at %d: %v, %v", n, a, b)
		}
	}
	for _, more := range [][]byte{{0}, {1}, {2}, {3}, {255}, make([]byte, 7), log} {
		data := slices.Concat(log, more)
		if a, b := checkLogPuts(t, data, []impl.Put{up}), checkLogMark(t, data, 5); len(a)+len(b) > 0 {
			t.Errorf("with %v behind: %v, %v", more, a, b)
		}
	}
}

func TestHowManyPutsAreLogged(t *testing.T) {
	log, _ := smallLog()
	puts := make([]impl.Put, 501)
	for i := range puts {
		puts[i] = impl.Put{Labels: labelsOf("_name", "s"+strconv.Itoa(i)), Time: i, Value: -i}
	}
	for _, data := range [][]byte{nil, log} {
		known := len(impl.ReadLog(data).Series)
		for _, n := range []int{1, 2, 127, 128, 499, 500} {
			got := checkReadLog(t, checkLogPuts(t, data, puts[:n]))
			last := got.Batches[len(got.Batches)-1]
			if len(got.Series) != known+n || !same(last, impl.LogBatch{Puts: puts[:n], Mark: -1}) {
				t.Errorf("%d puts: %d series", n, len(got.Series))
			}
		}
		if got := checkLogPuts(t, data, puts); len(got) > 0 {
			t.Errorf("501 puts: %d bytes", len(got))
		}
		one := slices.Repeat(puts[:1], 501)
		if a, b := checkLogPuts(t, data, one[:500]), checkLogPuts(t, data, one); len(a) == 0 || len(b) > 0 {
			t.Errorf("one put 500 times: %d bytes; 501 times: %d", len(a), len(b))
		}
	}
	if got := impl.LogPuts(nil, make([]impl.Put, 1<<16)); len(got) > 0 {
		t.Errorf("very many puts: %d bytes", len(got))
	}
	if got := impl.LogPuts(nil, []impl.Put{{Labels: manyLabels(1 << 16)}}); len(got) > 0 {
		t.Errorf("very many labels: %d bytes", len(got))
	}
}

// logOfSize is a log of just so many bytes, of a series and marks alone.
func logOfSize(size int) []byte {
	out := slices.Concat(seriesRecord(1, labelsOf("_name", "up")), markRecord(maxTime))
	for size-len(out) >= 36 {
		out = append(out, markRecord(maxTime)...)
	}
	// What is left is 24 to 35 bytes: three marks, as one has 7 to 12.
	for parts := 3; parts > 0; parts-- {
		part := (size - len(out)) / parts
		out = append(out, markRecord(1<<(7*(part-7)))...)
	}
	return out
}

func TestLogsAtMaxLog(t *testing.T) {
	up := []impl.Put{{Labels: labelsOf("_name", "up"), Time: 5, Value: 5}}
	fresh := []impl.Put{{Labels: labelsOf("_name", "new"), Time: 5}, {Labels: labelsOf("_name", "newer"), Time: 300, Value: 300}}
	for _, c := range []struct {
		name  string
		size  int
		log   func(t *testing.T, data []byte) []byte
		batch []byte
	}{
		{"a mark", 7, func(t *testing.T, data []byte) []byte { return checkLogMark(t, data, 5) }, markRecord(5)},
		{"the greatest mark", 12, func(t *testing.T, data []byte) []byte { return checkLogMark(t, data, maxTime) }, markRecord(maxTime)},
		{"a put", 10, func(t *testing.T, data []byte) []byte { return checkLogPuts(t, data, up) }, samplesRecord(sampleRow{1, 5, 5})},
		{"new series", 53, func(t *testing.T, data []byte) []byte { return checkLogPuts(t, data, fresh) }, slices.Concat(seriesRecord(2, labelsOf("_name", "new")), seriesRecord(3, labelsOf("_name", "newer")), samplesRecord(sampleRow{2, 5, 0}, sampleRow{3, 300, 300}))},
	} {
		for _, over := range []int{-1, 0, 1} {
			data := logOfSize(maxLog - len(c.batch) + over)
			if len(data) != maxLog-len(c.batch)+over || len(c.batch) != c.size {
				t.Fatalf("%s: %d bytes behind %d", c.name, len(c.batch), len(data))
			}
			got := c.log(t, data)
			if over == 1 && len(got) > 0 || over < 1 && !bytes.Equal(got, slices.Concat(data, c.batch)) {
				t.Errorf("%s, over by %d: %d bytes", c.name, over, len(got))
			}
		}
	}
}

func TestReadLogsAtMaxLog(t *testing.T) {
	for _, size := range []int{maxLog - 1, maxLog} {
		data := logOfSize(size)
		if got := checkReadLog(t, data); got.Good != size || len(got.Series) != 1 {
			t.Errorf("%d bytes: %d are good", size, got.Good)
		}
		if h := checkReplay(t, 5, 5, data); h.Newest != maxTime {
			t.Errorf("%d bytes: %v", size, h)
		}
	}
	// With bytes behind it that are no batch, but not beyond MaxLog, what is good stays.
	if got := checkReadLog(t, append(logOfSize(maxLog-50), make([]byte, 50)...)); got.Good != maxLog-50 {
		t.Errorf("%d are good", got.Good)
	}
	for _, none := range [][]byte{nil, {}} {
		if got := checkReadLog(t, none); !same(got, impl.LogRes{}) {
			t.Errorf("no bytes: %v", got)
		}
	}
	// As many samples as a log holds.
	full := seriesRecord(1, labelsOf("_name", "up"))
	for part := samplesRecord(slices.Repeat([]sampleRow{{1, 5, 5}}, 500)...); len(full)+len(part) <= maxLog; {
		full = append(full, part...)
	}
	if got := checkReadLog(t, full); got.Good != len(full) || len(got.Batches) < 130 {
		t.Errorf("%d batches", len(got.Batches))
	}
}

func TestCrashedLogs(t *testing.T) {
	log, _ := smallLog()
	r := rand.New(rand.NewSource(89))
	noise := make([]byte, 100)
	r.Read(noise)
	for _, data := range [][]byte{log, noise, {7}, {}, nil, make([]byte, maxLog-1), make([]byte, maxLog), logOfSize(maxLog)} {
		size := len(data)
		for _, n := range []int{math.MinInt, -size, -2, -1, 0, 1, size / 2, size - 1, size, size + 1, size + 2, 2*size + 1, maxLog, maxLog + 1, math.MaxInt} {
			got := checkCrash(t, data, n)
			if fine := n >= 0 && n <= size; fine && len(got) != n || !fine && len(got) > 0 {
				t.Errorf("%d of %d bytes: %d", n, size, len(got))
			}
		}
	}
	for _, data := range [][]byte{make([]byte, maxLog+1), logOfSize(maxLog + 1), make([]byte, 1<<20)} {
		for _, n := range []int{-1, 0, 1, 10, maxLog - 1, maxLog, maxLog + 1, len(data), len(data) + 1} {
			if got := checkCrash(t, data, n); len(got) > 0 {
				t.Errorf("%d of %d bytes: %d", n, len(data), len(got))
			}
		}
	}
	// What lies behind a log's length is not handed out, and no reason to be taken as part of it.
	memory := slices.Clone(log)
	if got := impl.CrashLog(memory[:20], 21); len(got) > 0 {
		t.Errorf("bytes from behind: %v", got)
	}
	if got := impl.ReadLog(memory[:20]); got.Good != 0 {
		t.Errorf("bytes from behind: %v", got)
	}
}

// checkBeyond sees that of bytes beyond MaxLog just the batches are told that end at good or ahead of it, and that nothing can be put behind them.
func checkBeyond(t *testing.T, name string, data []byte, good int) {
	t.Helper()
	if len(data) <= maxLog {
		t.Fatalf("%s: only %d bytes", name, len(data))
	}
	got, told := checkReadLog(t, data), impl.ReadLog(data[:good])
	if got.Good != good || told.Good != good || !same(got, told) {
		t.Errorf("%s, %d bytes: %d are good, not %d", name, len(data), got.Good, good)
	}
	if h := checkReplay(t, 5, 5, data); !same(h, impl.Replay(5, 5, data[:good])) {
		t.Errorf("%s, %d bytes: %v", name, len(data), h)
	}
	if a, b := checkLogMark(t, data, 5), checkLogPuts(t, data, []impl.Put{{Labels: labelsOf("_name", "up")}}); len(a)+len(b) > 0 {
		t.Errorf("%s, %d bytes go on", name, len(data))
	}
	if got := checkCrash(t, data, good); len(got) > 0 {
		t.Errorf("%s, %d bytes crash", name, len(data))
	}
}

// Bytes beyond MaxLog are of no batch; the batches that are whole ahead of them are told all the same.
func TestLogsBeyondMaxLog(t *testing.T) {
	small, _ := smallLog()
	for _, data := range [][]byte{markRecord(5), small, seriesRecord(1, labelsOf("_name", "up")), {7}, nil} {
		good := readLogModel(data).Good
		for _, size := range []int{maxLog + 1, 300000} {
			for _, fill := range []byte{0, 3, 255} {
				checkBeyond(t, "a short log", append(slices.Clone(data), bytes.Repeat([]byte{fill}, size-len(data))...), good)
			}
		}
	}
	for _, size := range []int{maxLog + 1, maxLog + 11, maxLog + 12, maxLog + 100} {
		data, good := logOfSize(size), 0
		ends, batch := recordEnds(data)
		for i, end := range ends {
			if end <= maxLog && batch[i] {
				good = end
			}
		}
		if good < maxLog-12 {
			t.Fatalf("%d bytes: the last mark ends at %d", size, good)
		}
		checkBeyond(t, "marks", data, good)
	}
	for _, behind := range [][]byte{{0}, markRecord(5), logOfSize(maxLog)} {
		checkBeyond(t, "a full log", slices.Concat(logOfSize(maxLog), behind), maxLog)
		checkBeyond(t, "nearly a full log", slices.Concat(logOfSize(maxLog-1), []byte{3}, behind), maxLog-1)
	}
}

// A batch with bytes on both sides of MaxLog is none, wherever in it MaxLog lies, and its series are not told.
func TestBatchesOnBothSidesOfMaxLog(t *testing.T) {
	fresh, last := seriesRecord(2, labelsOf("_name", "new")), samplesRecord(sampleRow{1, 5, 5}, sampleRow{2, 300, 300})
	batch := slices.Concat(fresh, last)
	for _, over := range []int{1, 4, 5, len(last) - 1, len(last), len(last) + 1, len(batch) - 1} {
		size := maxLog - len(batch) + over
		checkBeyond(t, "a batch of puts", slices.Concat(logOfSize(size), batch), size)
		checkBeyond(t, "and another one", slices.Concat(logOfSize(size), batch, markRecord(7)), size)
	}
	// One byte less in all, and it is whole: with and without more behind it.
	full := slices.Concat(logOfSize(maxLog-len(batch)), batch)
	if got := checkReadLog(t, full); got.Good != maxLog || len(got.Series) != 2 {
		t.Errorf("%d are good, %d series", got.Good, len(got.Series))
	}
	checkBeyond(t, "a whole batch", slices.Concat(full, markRecord(7)), maxLog)
	for _, over := range []int{1, 4, 10, 11} {
		checkBeyond(t, "a mark", slices.Concat(logOfSize(maxLog-12+over), markRecord(maxTime)), maxLog-12+over)
	}
}

// Answers are new memory: what is written into one shows in no other, and in no argument.
func TestAnswersOfLogsAreNew(t *testing.T) {
	r := rand.New(rand.NewSource(90))
	for range 50 {
		data, _, _ := randomLog(t, r, 6)
		h := fewHead(r)
		dataWas, headWas := slices.Clone(data), laid(h, 0)
		put := []impl.Put{{Labels: labelsOf("_name", "a", "job", "b"), Time: 5}}
		all := [][]byte{impl.LogPuts(data, put), impl.LogMark(data, 7), impl.CrashLog(data, len(data)), impl.Checkpoint(h)}
		for _, b := range all {
			for i := range b[:cap(b)] {
				b[:cap(b)][i] = 99
			}
		}
		res, head := impl.ReadLog(data), impl.Replay(100, 100, data)
		for _, l := range res.Series {
			scribble(l)
		}
		for _, b := range res.Batches {
			for _, p := range b.Puts {
				if slices.ContainsFunc(p.Labels, func(x impl.Label) bool { return x.Name == "scribbled" }) {
					t.Fatal("the labels of series and puts share memory")
				}
				scribble(p.Labels)
			}
		}
		for _, s := range head.Series {
			scribble(s.Labels)
			clear(s.Samples[:cap(s.Samples)])
		}
		if !bytes.Equal(data, dataWas) || !same(h, headWas) || impl.LabelsText(put[0].Labels) != `{_name="a",job="b"}` {
			t.Fatal("an argument was written into")
		}
		checkReadLog(t, data)
		checkReplay(t, 100, 100, data)
		checkCheckpoint(t, h)
	}
}
