package tests

import (
	"bytes"
	"fmt"
	"math"
	"math/rand"
	"slices"
	"testing"

	"loop.example/g00039/impl"
)

func goodConfModel(c impl.StoreConf) bool {
	return c.Window >= 0 && c.Window <= maxTime && c.Limit >= 0 && c.Limit <= 200 && c.Base >= 1 && c.Base <= maxBase && c.Keep >= 0 && c.Keep <= maxTime
}

// lastEnd is the To of the last block, 0 where there is none.
func lastEnd(l []impl.Block) int {
	end := 0
	for _, b := range l {
		end = max(end, b.To)
	}
	return end
}

func goodStoreModel(c impl.StoreConf, s impl.Store) bool {
	if !goodConfModel(c) || !goodHeadModel(s.Head) || s.Head.Window != c.Window || s.Head.Limit != c.Limit || !goodShelfModel(c.Base, s.Blocks) {
		return false
	}
	for _, x := range s.Head.Series {
		if x.Samples[0].Time < lastEnd(s.Blocks) {
			return false
		}
	}
	return readLogModel(s.Log).Good == len(s.Log) && same(replayModel(c.Window, c.Limit, s.Log), s.Head)
}

// anewModel is the log of a head, made anew; a head has none only where it has never had a Newest.
func anewModel(h impl.Head) ([]byte, bool) {
	log := checkpointModel(h)
	return log, len(log) > 0 || h.Newest == -1
}

func putModel(s impl.Store, puts []impl.Put) (impl.Store, []int, bool) {
	if len(puts) == 0 || len(puts) > 500 {
		return s, nil, false
	}
	book := bookOf(s.Head)
	var codes []int
	var taken []impl.Put
	for _, p := range puts {
		code := 0
		if logPutModel(p) && p.Time < lastEnd(s.Blocks) {
			code = 3
		} else if code = book.put(p); code == 0 {
			taken = append(taken, p)
		}
		codes = append(codes, code)
	}
	if len(taken) == 0 {
		return s, codes, true
	}
	next, ok := impl.Store{Head: book.head(), Log: logPutsModel(s.Log, taken), Blocks: s.Blocks}, true
	if len(next.Log) == 0 {
		next.Log, ok = anewModel(next.Head)
	}
	return next, codes, ok
}

func cutStoreModel(c impl.StoreConf, s impl.Store) (impl.Store, int, bool) {
	left, fresh := s.Head, []impl.Block(nil)
	if before := s.Head.Newest - c.Window; before >= 0 {
		if left, fresh = cutHeadModel(s.Head, c.Base, before); left.Limit != c.Limit {
			return s, 0, false
		}
	}
	log, ok := anewModel(left)
	return impl.Store{Head: left, Log: log, Blocks: slices.Concat(s.Blocks, fresh)}, len(fresh), ok && len(s.Blocks)+len(fresh) <= 100
}

func deleteStoreModel(c impl.StoreConf, s impl.Store, op impl.StoreOp) (impl.Store, int, bool) {
	if !goodMatchersModel(op.Match) || min(op.From, op.To) < 0 || max(op.From, op.To) > maxTime {
		return s, 0, false
	}
	blocks := deleteBlocksModel(c.Base, s.Blocks, op.Match, op.From, op.To)
	if len(blocks) == 0 && len(s.Blocks) > 0 {
		return s, 0, false
	}
	left, went := bookOf(impl.Head{Window: c.Window, Limit: c.Limit, Newest: s.Head.Newest}), 0
	for _, x := range s.Head.Series {
		for _, y := range x.Samples {
			if fitsAllModel(op.Match, x.Labels) && y.Time >= op.From && y.Time <= op.To {
				went++
			} else {
				left.write(impl.Put{Labels: x.Labels, Time: y.Time, Value: y.Value})
			}
		}
	}
	log, ok := anewModel(left.head())
	return impl.Store{Head: left.head(), Log: log, Blocks: blocks}, went, ok
}

func crashModel(c impl.StoreConf, s impl.Store, lost int) (impl.Store, int, bool) {
	if lost < 0 || lost > len(s.Log) {
		return s, 0, false
	}
	log := s.Log[:len(s.Log)-lost]
	log = log[:readLogModel(log).Good]
	return impl.Store{Head: replayModel(c.Window, c.Limit, log), Log: log, Blocks: s.Blocks}, len(log), true
}

// stepModel says what the chapter does, by the models of the chapters ahead of it.
func stepModel(c impl.StoreConf, s impl.Store, op impl.StoreOp) (impl.Store, []int) {
	if !goodStoreModel(c, s) {
		return impl.Store{}, nil
	}
	next, came, ok := s, 0, true
	switch op.Kind {
	case 1:
		after, codes, ok := putModel(s, op.Puts)
		if !ok {
			return s, []int{-1}
		}
		return after, codes
	case 2:
		next, came, ok = cutStoreModel(c, s)
	case 3:
		next.Blocks = compactModel(c.Base, s.Blocks)
		came = len(next.Blocks)
	case 4:
		next, came, ok = deleteStoreModel(c, s, op)
	case 5:
		next.Blocks = retainModel(c.Base, s.Blocks, s.Head.Newest-c.Keep)
		came = len(next.Blocks)
	case 6:
		next, came, ok = crashModel(c, s, op.Lost)
	default:
		ok = false
	}
	if !ok {
		return s, []int{-1}
	}
	return next, []int{came}
}

func selectStoreModel(c impl.StoreConf, s impl.Store, m []impl.Matcher, from int, to int) []impl.Series {
	if !goodStoreModel(c, s) || !goodMatchersModel(m) {
		return nil
	}
	book := bookOfBlocks(s.Blocks, m, from, to)
	for _, x := range selectModel(s.Head.Series, m, from, to) {
		for _, y := range x.Samples {
			book.write(impl.Put{Labels: x.Labels, Time: y.Time, Value: y.Value})
		}
	}
	if out := book.head().Series; goodSeriesModel(out) {
		return out
	}
	return nil
}

func checkGoodStore(t *testing.T, c impl.StoreConf, s impl.Store) bool {
	t.Helper()
	arg, kept := guarded(s)
	got := impl.GoodStore(c, arg)
	if got != goodStoreModel(c, s) || !kept() {
		t.Fatalf("GoodStore of %v, %s: %v", c, shortly(s), got)
	}
	return got
}

// storeAnswer is a store and codes, so that their memory is looked at together.
type storeAnswer struct {
	Store impl.Store
	Codes [][]int
}

// checkStep holds StoreStep against the model. Behind any op a good store is good, and a crash leaves nothing that was not there.
func checkStep(t *testing.T, c impl.StoreConf, s impl.Store, op impl.StoreOp) (impl.Store, []int) {
	t.Helper()
	arg, kept := guarded(s)
	ask, askKept := guarded(op)
	got, codes := impl.StoreStep(c, arg, ask)
	want, wantCodes := stepModel(c, s, op)
	if !same(got, want) || !slices.Equal(codes, wantCodes) {
		t.Fatalf("StoreStep of %v, %s, %s:\n%s, %v\nnot %s, %v", c, shortly(s), shortly(op), shortly(got), codes, shortly(want), wantCodes)
	}
	if !kept() || !askKept() {
		t.Fatalf("StoreStep wrote into %s or %s", shortly(s), shortly(op))
	}
	checkOwn(t, storeAnswer{got, [][]int{codes}}, arg, ask)
	if len(codes) == 0 {
		return got, codes
	}
	if !checkGoodStore(t, c, got) {
		t.Fatalf("%v, %s is no good store behind %s: %s", c, shortly(s), shortly(op), shortly(got))
	}
	if op.Kind == impl.OpCrash && !lies(saidBy(c, got), saidBy(c, s)) || op.Kind == impl.OpCrash && op.Lost == 0 && !same(got, s) {
		t.Fatalf("%v, %s: lost %d: %s", c, shortly(s), op.Lost, shortly(got))
	}
	return got, codes
}

func checkRunStore(t *testing.T, c impl.StoreConf, ops []impl.StoreOp) (impl.Store, [][]int) {
	t.Helper()
	arg, kept := guarded(ops)
	got, codes := impl.RunStore(c, arg)
	var want impl.Store
	var wantCodes [][]int
	if goodConfModel(c) && len(ops) <= 60 {
		want.Head = impl.Head{Window: c.Window, Limit: c.Limit, Newest: -1}
		for _, op := range ops {
			next, came := stepModel(c, want, op)
			want, wantCodes = next, append(wantCodes, came)
		}
	}
	if !same(got, want) || !same(codes, wantCodes) || !kept() {
		t.Fatalf("RunStore of %v, %s:\n%s, %v\nnot %s, %v", c, shortly(ops), shortly(got), codes, shortly(want), wantCodes)
	}
	checkOwn(t, storeAnswer{got, codes}, arg)
	return got, codes
}

func checkSelectStore(t *testing.T, c impl.StoreConf, s impl.Store, m []impl.Matcher, from int, to int) []impl.Series {
	t.Helper()
	arg, kept := guarded(s)
	list, listKept := guarded(m)
	got := impl.SelectStore(c, arg, list, from, to)
	if want := selectStoreModel(c, s, m, from, to); !same(got, want) || !kept() || !listKept() {
		t.Fatalf("SelectStore of %v, %s, %v, %d, %d:\n%s\nnot %s", c, shortly(s), m, from, to, shortly(got), shortly(want))
	}
	checkOwn(t, got, arg, list)
	return got
}

// saidBy is all that a store says.
func saidBy(c impl.StoreConf, s impl.Store) []impl.Series {
	return impl.SelectStore(c, s, nil, math.MinInt, math.MaxInt)
}

// lies says whether all samples of some series are among those of others.
func lies(some []impl.Series, others []impl.Series) bool {
	book := bookOf(impl.Head{Series: others})
	for _, s := range some {
		at := book.values[labelsTextModel(s.Labels)]
		for _, x := range s.Samples {
			if v, there := at[x.Time]; !there || v != x.Value {
				return false
			}
		}
	}
	return true
}

func opPut(puts ...impl.Put) impl.StoreOp {
	return impl.StoreOp{Kind: impl.OpPut, Puts: puts}
}

func opDelete(m []impl.Matcher, from int, to int) impl.StoreOp {
	return impl.StoreOp{Kind: impl.OpDelete, Match: m, From: from, To: to}
}

func opCrash(lost int) impl.StoreOp {
	return impl.StoreOp{Kind: impl.OpCrash, Lost: lost}
}

var opCut, opCompact, opRetain = impl.StoreOp{Kind: impl.OpCut}, impl.StoreOp{Kind: impl.OpCompact}, impl.StoreOp{Kind: impl.OpRetain}

// at is a put of a series of that name; its Value is its Time.
func at(name string, time int) impl.Put {
	return impl.Put{Labels: labelsOf("_name", name), Time: time, Value: time}
}

// ats are puts of a series at many times.
func ats(name string, times ...int) []impl.Put {
	var out []impl.Put
	for _, time := range times {
		out = append(out, at(name, time))
	}
	return out
}

// stored is the store behind ops, each of which was not refused.
func stored(t *testing.T, c impl.StoreConf, ops ...impl.StoreOp) impl.Store {
	t.Helper()
	s := impl.NewStore(c)
	for i, op := range ops {
		next, codes := checkStep(t, c, s, op)
		if len(codes) == 0 || codes[0] == -1 {
			t.Fatalf("op %d, %s: %v", i, shortly(op), codes)
		}
		s = next
	}
	return s
}

// storePuts are puts near to what a store has and to the end of its blocks.
func storePuts(r *rand.Rand, s impl.Store, n int) []impl.Put {
	var out []impl.Put
	for range n {
		p := impl.Put{Labels: fewLabels(r), Time: max(0, s.Head.Newest) + r.Intn(18) - 9, Value: r.Intn(3)}
		switch r.Intn(15) {
		case 0:
			p.Time = []int{-1, maxTime + 1, math.MinInt, math.MaxInt}[r.Intn(4)]
		case 1, 2, 3:
			p.Time = lastEnd(s.Blocks) + r.Intn(4) - 2
		}
		out = append(out, p)
	}
	return out
}

// deletionOf is a deletion that meets what a store has.
func deletionOf(r *rand.Rand, s impl.Store) impl.StoreOp {
	from := r.Intn(max(1, s.Head.Newest+5))
	if r.Intn(2) == 0 {
		from = max(0, s.Head.Newest-r.Intn(8))
	}
	return opDelete(blockMatchers(r), from, from+r.Intn(12))
}

func storeConfs(r *rand.Rand) impl.StoreConf {
	return impl.StoreConf{
		Window: []int{0, 1, 5, 8, 20, maxTime}[r.Intn(6)], Limit: []int{1, 3, 9, 200, 200}[r.Intn(5)],
		Base: []int{1, 2, 3, 10, 37}[r.Intn(5)], Keep: []int{0, 5, 20, 60, maxTime}[r.Intn(5)],
	}
}

func randomStoreOp(r *rand.Rand, s impl.Store) impl.StoreOp {
	size := len(s.Log)
	switch r.Intn(20) {
	case 0, 1, 2, 3, 4, 5, 6, 7:
		return opPut(storePuts(r, s, 1+r.Intn(9))...)
	case 8, 9, 10:
		return opCut
	case 11, 12:
		return opCompact
	case 13, 14:
		return deletionOf(r, s)
	case 15:
		return opRetain
	case 16, 17:
		return opCrash(r.Intn(size + 1))
	case 18:
		return opCrash([]int{0, 1, size, size + 1, -1, math.MinInt, math.MaxInt}[r.Intn(7)])
	}
	return impl.StoreOp{Kind: r.Intn(9) - 1, From: r.Intn(30) - 3, To: r.Intn(30) - 3, Lost: r.Intn(30) - 3}
}

// Promise 12: behind puts, cuts, compactions and deletions in any order the store says what the puts and deletions alone come to, and each put is answered as there.
func TestTheStoreSaysWhatPutsAndDeletionsComeTo(t *testing.T) {
	r := rand.New(rand.NewSource(121))
	blocks, gone, old, found := 0, 0, 0, 0
	for range 150 {
		c := storeConfs(r)
		c.Limit = 200
		s, plain := impl.NewStore(c), impl.NewStore(c)
		deletions := 0
		for range 25 {
			op := randomStoreOp(r, s)
			if op.Kind == impl.OpDelete {
				deletions++
			}
			if op.Kind < impl.OpPut || op.Kind > impl.OpDelete || op.Kind == impl.OpDelete && deletions > 4 {
				continue
			}
			next, codes := checkStep(t, c, s, op)
			if op.Kind == impl.OpPut || op.Kind == impl.OpDelete {
				after, plainCodes := checkStep(t, c, plain, op)
				if op.Kind == impl.OpPut && !slices.Equal(codes, plainCodes) {
					t.Fatalf("%v, %s: %s: %v, but %v", c, shortly(s), shortly(op), codes, plainCodes)
				}
				if op.Kind == impl.OpDelete {
					gone += plainCodes[0]
				}
				plain = after
			}
			if op.Kind == impl.OpPut && slices.Contains(codes, impl.PutOld) {
				old++
			}
			s = next
			m, from, to := blockMatchers(r), r.Intn(60), r.Intn(60)
			if !same(saidBy(c, s), saidBy(c, plain)) || !same(checkSelectStore(t, c, s, m, from, to), checkSelectStore(t, c, plain, m, from, to)) {
				t.Fatalf("%v, %s: %v, but %v", c, shortly(s), saidBy(c, s), saidBy(c, plain))
			}
			found += len(saidBy(c, s))
		}
		if len(plain.Blocks) > 0 {
			t.Fatalf("blocks without a cut: %v", plain)
		}
		blocks += len(s.Blocks)
	}
	if blocks < 250 || old < 300 || found < 5000 || gone < 200 {
		t.Errorf("%d blocks, %d old puts, %d found, %d gone", blocks, old, found, gone)
	}
}

// Promise 12: behind any ops, crashes among them, the store is good and what the chapter says, step by step or at once.
func TestAnyOpsLeaveAGoodStore(t *testing.T) {
	r := rand.New(rand.NewSource(122))
	kinds, lost, refused := map[int]int{}, 0, 0
	for range 300 {
		c := storeConfs(r)
		s := impl.NewStore(c)
		var ops []impl.StoreOp
		var all [][]int
		for range r.Intn(40) {
			op := randomStoreOp(r, s)
			next, codes := checkStep(t, c, s, op)
			if op.Kind == impl.OpCrash && !same(saidBy(c, next), saidBy(c, s)) {
				lost++
			}
			if codes[0] == -1 {
				refused++
			} else {
				kinds[op.Kind]++
			}
			s, ops, all = next, append(ops, op), append(all, codes)
			times := append(shelfTimes(s.Blocks), s.Head.Newest, s.Head.Newest-c.Window)
			checkSelectStore(t, c, s, blockMatchers(r), times[r.Intn(len(times))], times[r.Intn(len(times))])
		}
		if got, codes := checkRunStore(t, c, ops); !same(got, s) || !same(codes, all) {
			t.Fatalf("%v, %s: at once %s, %v, not %s, %v", c, shortly(ops), shortly(got), codes, shortly(s), all)
		}
	}
	for kind := impl.OpPut; kind <= impl.OpCrash; kind++ {
		if kinds[kind] < 200 {
			t.Errorf("kind %d just %d times", kind, kinds[kind])
		}
	}
	if lost < 150 || refused < 150 {
		t.Errorf("%d crashes lost something, %d ops were refused", lost, refused)
	}
}

// recordEnds tells where the records of a log end, and for each one whether a batch does.
func recordEnds(log []byte) ([]int, []bool) {
	var ends []int
	var batch []bool
	for at := 0; at < len(log); {
		r, n, ok := recordModel(log[at:])
		if !ok {
			break
		}
		at += n
		ends, batch = append(ends, at), append(batch, r.sort != 1)
	}
	return ends, batch
}

// checkCrashesOf lets a store crash with its log cut at each of these places; then it takes puts, and crashes again.
func checkCrashesOf(t *testing.T, c impl.StoreConf, s impl.Store, cuts []int, more []impl.Put) {
	t.Helper()
	ends, batch := recordEnds(s.Log)
	batches := readLogModel(s.Log).Batches
	for _, n := range cuts {
		good, whole := 0, 0
		for i, end := range ends {
			if end <= n && batch[i] {
				good, whole = end, whole+1
			}
		}
		left, codes := checkStep(t, c, s, opCrash(len(s.Log)-n))
		if codes[0] != good || !bytes.Equal(left.Log, s.Log[:good]) || !same(readLogModel(left.Log).Batches, batches[:whole]) || !same(left.Blocks, s.Blocks) {
			t.Fatalf("%s with %d of %d bytes: %v, %s", shortly(s), n, len(s.Log), codes, shortly(left))
		}
		again, codes := checkStep(t, c, left, opPut(more...))
		if len(codes) != len(more) || !lies(saidBy(c, left), saidBy(c, again)) {
			t.Fatalf("%s with %d bytes, then %v", shortly(s), n, codes)
		}
		// What has come since is lost from its end on, and what was there ahead of it stays.
		fresh := len(again.Log) - len(left.Log)
		for _, lost := range []int{0, 1, fresh - 1, fresh, fresh + 1, len(again.Log)} {
			if lost < 0 || lost > len(again.Log) {
				continue
			}
			back, _ := checkStep(t, c, again, opCrash(lost))
			if lost > 0 && lost <= fresh && !same(back, left) || lost > fresh && len(back.Log) >= max(1, good) {
				t.Fatalf("%s with %d bytes, then %v, then %d lost: %s", shortly(s), n, codes, lost, shortly(back))
			}
		}
		checkStep(t, c, again, opCut)
		checkStep(t, c, again, opDelete(nil, 0, lastEnd(s.Blocks)+5))
	}
}

// cutsOf are places in a log: each byte of a short one; of a long one those at and beside the ends of its records, and in their middles.
func cutsOf(log []byte) []int {
	if len(log) < 400 {
		return upFrom(len(log)+1, 0, 1)
	}
	out, from := []int{0, 1}, 0
	ends, _ := recordEnds(log)
	for _, end := range ends {
		out = append(out, from+1, (from+end)/2, end-1, end)
		from = end
	}
	return out
}

func TestCrashesOfALogMadeAnewByACut(t *testing.T) {
	c := impl.StoreConf{Window: 5, Limit: 10, Base: 10, Keep: 25}
	puts := append(ats("up", 3, 14, 22, 26), ats("load", 4, 21, 27, 25)...)
	s := stored(t, c, opPut(puts...), opCut)
	if want := checkpointModel(s.Head); !bytes.Equal(s.Log, want) || len(s.Blocks) != 2 || lastEnd(s.Blocks) != 20 {
		t.Fatalf("%v", s)
	}
	more := append(ats("up", 19, 20, 9, 21, 22, 30), at("new", 28))
	checkCrashesOf(t, c, s, cutsOf(s.Log), more)
	// With puts behind the cut.
	s = stored(t, c, opPut(puts...), opCut, opPut(at("up", 29)), opPut(ats("other", 28, 30)...))
	checkCrashesOf(t, c, s, cutsOf(s.Log), more)
	// The mark alone is lost: the head is the same where it has a sample at its Newest.
	mark := len(markRecord(27))
	s = stored(t, c, opPut(puts...), opCut)
	for lost := 1; lost <= mark; lost++ {
		left, codes := checkStep(t, c, s, opCrash(lost))
		if codes[0] != len(s.Log)-mark || !same(left.Head, s.Head) {
			t.Errorf("%d lost: %v, %v", lost, codes, left)
		}
	}
	left, codes := checkStep(t, c, s, opCrash(mark+1))
	if codes[0] != 0 || !same(left, impl.Store{Head: impl.NewHead(5, 10), Blocks: s.Blocks}) {
		t.Errorf("%v, %v", codes, left)
	}
}

// More samples than a batch has: a crash leaves the batches that are whole, the earliest samples first.
func TestCrashesOfALongLogMadeAnew(t *testing.T) {
	c := impl.StoreConf{Window: 1000, Limit: 10, Base: 10, Keep: 25}
	var ops []impl.StoreOp
	for _, name := range []string{"c", "a", "b"} {
		ops = append(ops, opPut(ats(name, upFrom(400, 20, 2)...)...))
	}
	s := stored(t, c, append(ops, opPut(ats("up", 3, 11)...), opPut(at("up", 1020)), opCut)...)
	if len(s.Blocks) != 2 || s.Head.Newest != 1020 {
		t.Fatalf("%s", shortly(s))
	}
	ends, batch := recordEnds(s.Log)
	var counts, newest []int
	for _, end := range ends {
		left, _ := checkStep(t, c, s, opCrash(len(s.Log)-end))
		count := 0
		for _, x := range left.Head.Series {
			count += len(x.Samples)
		}
		counts, newest = append(counts, count), append(newest, left.Head.Newest)
	}
	// Three series, 500 samples, 500 more, the series up, 201 more, the mark.
	if !slices.Equal(batch, []bool{false, false, false, true, true, false, true, true}) ||
		!slices.Equal(counts, []int{0, 0, 0, 500, 1000, 1000, 1201, 1201}) || !slices.Equal(newest, []int{-1, -1, -1, 352, 686, 686, 1020, 1020}) {
		t.Errorf("%v, %v, %v", batch, counts, newest)
	}
	checkCrashesOf(t, c, s, cutsOf(s.Log), append(ats("up", 19, 20, 21, 353, 700, 1020), ats("a", 20, 21, 900)...))
	deleted, codes := checkStep(t, c, s, opDelete(exactly(labelsOf("_name", "b")), 30, 500))
	if codes[0] != 236 {
		t.Errorf("%v", codes)
	}
	checkCrashesOf(t, c, deleted, cutsOf(deleted.Log), append(ats("b", 19, 20, 30, 500), at("a", 900)))
}

// Where the newest samples were deleted the mark alone tells Newest: with it lost Newest goes back, but nothing is put where the blocks are.
func TestCrashesOfALogMadeAnewByADeletion(t *testing.T) {
	c := impl.StoreConf{Window: 5, Limit: 10, Base: 10, Keep: 10}
	s := stored(t, c, opPut(ats("up", 3, 14, 26)...), opCut, opDelete(nil, 20, 30))
	if !bytes.Equal(s.Log, markRecord(26)) || s.Head.Newest != 26 || len(s.Head.Series) > 0 || len(s.Blocks) != 2 {
		t.Fatalf("%v", s)
	}
	more := append(ats("up", 19, 20, 21, 3, 9, 10, 50), at("new", 49))
	checkCrashesOf(t, c, s, cutsOf(s.Log), more)
	_, codes := checkStep(t, c, s, opPut(ats("up", 0, 19, 20, 21)...))
	if !slices.Equal(codes, []int{impl.PutOld, impl.PutOld, impl.PutOld, impl.PutTaken}) {
		t.Errorf("with its mark: %v", codes)
	}
	for lost := 1; lost <= len(s.Log); lost++ {
		left, codes := checkStep(t, c, s, opCrash(lost))
		if codes[0] != 0 || left.Head.Newest != -1 || len(left.Blocks) != 2 {
			t.Fatalf("%d lost: %v, %v", lost, codes, left)
		}
		again, codes := checkStep(t, c, left, opPut(ats("up", 0, 3, 19, 20, 21, 14)...))
		if !slices.Equal(codes, []int{impl.PutOld, impl.PutOld, impl.PutOld, impl.PutTaken, impl.PutTaken, impl.PutOld}) || again.Head.Newest != 21 {
			t.Fatalf("%d lost, then %v, %v", lost, codes, again)
		}
		// Neither is anything cut or given up by the Newest that was.
		if _, codes := checkStep(t, c, left, opCut); codes[0] != 0 {
			t.Errorf("cut: %v", codes)
		}
		if _, codes := checkStep(t, c, left, opRetain); codes[0] != 2 {
			t.Errorf("retained: %v", codes)
		}
	}
	if _, codes := checkStep(t, c, s, opRetain); codes[0] != 1 {
		t.Errorf("retained: %v", codes)
	}
	// Some are left: Newest goes back to the last of them.
	s = stored(t, c, opPut(ats("up", 3, 14, 22, 24, 26)...), opCut, opDelete(nil, 25, 30))
	if left, _ := checkStep(t, c, s, opCrash(1)); left.Head.Newest != 24 || len(left.Head.Series) != 1 || s.Head.Newest != 26 {
		t.Errorf("%v", left)
	}
	checkCrashesOf(t, c, s, cutsOf(s.Log), more)
	// What was deleted does not come back, though the log had it once.
	s = stored(t, c, opPut(ats("up", 22, 24, 26)...), opDelete(nil, 24, 24), opPut(at("up", 27)))
	for lost := range len(s.Log) + 1 {
		left, _ := checkStep(t, c, s, opCrash(lost))
		if got := checkSelectStore(t, c, left, nil, 24, 24); len(got) > 0 {
			t.Fatalf("%d lost: %v", lost, got)
		}
	}
	checkCrashesOf(t, c, s, cutsOf(s.Log), more)
}

// longStore has a log of just so many bytes, of marks alone; each time may be put.
func longStore(size int) (impl.StoreConf, impl.Store) {
	c := impl.StoreConf{Window: maxTime, Limit: 200, Base: 10, Keep: 25}
	log := logOfSize(size)
	return c, impl.Store{Head: impl.Replay(c.Window, c.Limit, log), Log: log}
}

func TestLogsMadeAnewByPuts(t *testing.T) {
	known, fresh := []impl.Put{at("up", 5), at("up", 4), at("up", 5)}, append(ats("b", 9, 7), ats("a", 8, 7)...)
	for _, x := range []struct {
		name  string
		puts  []impl.Put
		taken []byte
	}{
		{"a series that is known", known, samplesRecord(sampleRow{1, 5, 5}, sampleRow{1, 4, 4})},
		{"new series", fresh, slices.Concat(seriesRecord(2, labelsOf("_name", "b")), seriesRecord(3, labelsOf("_name", "a")), samplesRecord(sampleRow{2, 9, 9}, sampleRow{2, 7, 7}, sampleRow{3, 8, 8}, sampleRow{3, 7, 7}))},
	} {
		for over := -1; over <= 1; over++ {
			c, s := longStore(maxLog - len(x.taken) + over)
			next, codes := checkStep(t, c, s, opPut(x.puts...))
			want := slices.Concat(s.Log, x.taken)
			if over == 1 {
				want = checkpointModel(next.Head)
			}
			if len(codes) != len(x.puts) || codes[0] != impl.PutTaken || !bytes.Equal(next.Log, want) {
				t.Errorf("%s, over by %d: %v, %d bytes", x.name, over, codes, len(next.Log))
			}
			if over == 1 {
				checkCrashesOf(t, c, next, cutsOf(next.Log), append(ats("a", 1, 7, 2000), at("new", 3)))
				continue
			}
			// The log is as it was with what came last lost.
			for _, lost := range []int{1, len(x.taken)} {
				if left, _ := checkStep(t, c, next, opCrash(lost)); !same(left, s) {
					t.Errorf("%s, over by %d, %d lost: %s", x.name, over, lost, shortly(left))
				}
			}
		}
	}
	// Puts of which none is taken leave a full log as it is.
	c, s := longStore(maxLog)
	if next, codes := checkStep(t, c, s, opPut(at("up", -1), impl.Put{Time: 5})); !slices.Equal(codes, []int{impl.PutTime, impl.PutLabels}) || !same(next, s) {
		t.Errorf("%v", codes)
	}
}

// fullStore has a head whose Checkpoint has just so many bytes; its log has no mark.
func fullStore(t *testing.T, size int) (impl.StoreConf, impl.Store) {
	h := longHead(t, size)
	h.Window, h.Newest = maxTime, 199
	c := impl.StoreConf{Window: maxTime, Limit: 200, Base: 10, Keep: 25}
	return c, impl.Store{Head: h, Log: batchOfHead(h)}
}

// Ops that would make a log beyond MaxLog, the one made anew too, are refused: nothing has changed.
func TestOpsRefusedAtMaxLog(t *testing.T) {
	for over := -1; over <= 2; over++ {
		c, s := fullStore(t, maxLog+over)
		for name, op := range map[string]impl.StoreOp{"cut": opCut, "delete": opDelete(exactly(labelsOf("_name", "none")), 0, 5), "delete no times": opDelete(nil, 5, 4)} {
			next, codes := checkStep(t, c, s, op)
			if over > 0 && (codes[0] != -1 || !same(next, s)) || over <= 0 && (codes[0] != 0 || len(next.Log) != maxLog+over) {
				t.Errorf("%s, over by %d: %v", name, over, codes)
			}
		}
		// Where something goes there is room again.
		if next, codes := checkStep(t, c, s, opDelete(nil, 0, 5)); codes[0] != 6 || len(next.Log) == 0 {
			t.Errorf("over by %d: %v", over, codes)
		}
	}
}

// A put that makes the log too long is taken where the one made anew is not, and refused where that is, too; what can't be taken is told in any case.
func TestPutsRefusedAtMaxLog(t *testing.T) {
	check := func(over int, s impl.Store, c impl.StoreConf, want int) {
		t.Helper()
		// One sample of a series that is there: a record of 11 bytes behind the log, 4 bytes more in a log made anew.
		p := impl.Put{Labels: s.Head.Series[3].Labels, Time: 200}
		next, codes := checkStep(t, c, s, opPut(p, at("x", -1)))
		if want <= maxLog && (!slices.Equal(codes, []int{0, impl.PutTime}) || len(next.Log) != want) || want > maxLog && (!slices.Equal(codes, []int{-1}) || !same(next, s)) {
			t.Errorf("over by %d: %v, %d bytes", over, codes, len(next.Log))
		}
		if next, codes := checkStep(t, c, s, opPut(at("x", -1), at("x", 5))); !slices.Equal(codes, []int{impl.PutTime, impl.PutMany}) || !same(next, s) {
			t.Errorf("over by %d: %v", over, codes)
		}
	}
	record := len(samplesRecord(sampleRow{4, 200, 0}))
	for over := -1; over <= 1; over++ {
		// Behind the log there is room, or is none; made anew the log would be longer still.
		c, s := fullStore(t, maxLog+over-3)
		check(over, s, c, len(s.Log)+record)
		// Made anew there is room, or is none.
		c, s = fullStore(t, maxLog+over-4)
		s.Log = append(s.Log, markRecord(199)...)
		check(over, s, c, len(s.Log)+4)
	}
}

func TestPutsIntoAStore(t *testing.T) {
	c := impl.StoreConf{Window: 30, Limit: 3, Base: 10, Keep: 25}
	empty := impl.NewStore(c)
	for _, puts := range [][]impl.Put{nil, {}, slices.Repeat(ats("up", 5), 501), make([]impl.Put, 1<<12)} {
		if next, codes := checkStep(t, c, empty, opPut(puts...)); !slices.Equal(codes, []int{-1}) || !same(next, empty) {
			t.Errorf("%d puts: %v", len(puts), codes)
		}
	}
	for _, n := range []int{1, 2, 499, 500} {
		next, codes := checkStep(t, c, empty, opPut(ats("up", upFrom(n, 7, 1)...)...))
		if len(codes) != n || slices.Max(codes) != 0 || len(next.Head.Series[0].Samples) != n || len(readLogModel(next.Log).Batches) != 1 {
			t.Errorf("%d puts: %v", n, codes)
		}
	}
	// A window that would take what the blocks have: the last block ends at 20.
	wide := stored(t, impl.StoreConf{Window: 0, Limit: 3, Base: 10, Keep: 25}, opPut(ats("up", 3, 12, 29)...), opCut)
	wide.Head.Window = 30
	if !checkGoodStore(t, c, wide) || lastEnd(wide.Blocks) != 20 {
		t.Fatalf("%v", wide)
	}
	for _, x := range []struct{ time, want int }{
		{0, impl.PutOld}, {3, impl.PutOld}, {9, impl.PutOld}, {10, impl.PutOld}, {12, impl.PutOld}, {18, impl.PutOld}, {19, impl.PutOld}, {20, impl.PutTaken}, {21, impl.PutTaken}, {28, impl.PutTaken}, {29, impl.PutAgain}, {30, impl.PutTaken}, {59, impl.PutTaken}, {-1, impl.PutTime}, {maxTime, impl.PutTaken}, {maxTime + 1, impl.PutTime}, {math.MinInt, impl.PutTime}, {math.MaxInt, impl.PutTime},
	} {
		next, codes := checkStep(t, c, wide, opPut(at("up", x.time)))
		if !slices.Equal(codes, []int{x.want}) || x.want != 0 && !same(next, wide) {
			t.Errorf("at %d: %v", x.time, codes)
		}
		// With bad labels that is told first.
		if _, codes := checkStep(t, c, wide, opPut(impl.Put{Time: x.time})); codes[0] != impl.PutLabels {
			t.Errorf("at %d, no labels: %v", x.time, codes)
		}
	}
	// Behind a put that moves the window on its edge counts, not the block's end.
	_, codes := checkStep(t, c, wide, opPut(ats("up", 19, 20, 60, 29, 30, 19, 20, 31)...))
	if !slices.Equal(codes, []int{3, 0, 0, 3, 0, 3, 3, 0}) {
		t.Errorf("%v", codes)
	}
	// Old ones are told as such ahead of what else speaks against them.
	_, codes = checkStep(t, c, wide, opPut(at("a", 19), at("a", 20), at("b", 20), at("d", 19), at("d", 20), at("a", 19), impl.Put{Labels: labelsOf("_name", "up"), Time: 29}))
	if !slices.Equal(codes, []int{impl.PutOld, impl.PutTaken, impl.PutTaken, impl.PutOld, impl.PutMany, impl.PutOld, impl.PutTwice}) {
		t.Errorf("%v", codes)
	}
	// Of what is told several times the first one is taken, and it alone is logged.
	next, codes := checkStep(t, c, empty, opPut(at("up", 5), at("up", 5), impl.Put{Labels: labelsOf("_name", "up"), Time: 5, Value: 6}, impl.Put{Labels: labelsOf("job", "a"), Time: 5}, at("b", 4)))
	if !slices.Equal(codes, []int{0, impl.PutAgain, impl.PutTwice, impl.PutLabels, 0}) || !same(readLogModel(next.Log).Batches, []impl.LogBatch{{Puts: []impl.Put{at("up", 5), at("b", 4)}, Mark: -1}}) {
		t.Errorf("%v, %v", codes, next.Log)
	}
	// None taken: the log stays, to the byte.
	if again, codes := checkStep(t, c, next, opPut(at("up", 5), at("up", -5), at("b", 4))); !slices.Equal(codes, []int{impl.PutAgain, impl.PutTime, impl.PutAgain}) || !same(again, next) {
		t.Errorf("%v", codes)
	}
	// A head that takes none at all.
	none := impl.StoreConf{Base: 1}
	if got, codes := checkRunStore(t, none, []impl.StoreOp{opPut(at("up", 5)), opCut, opCompact, opDelete(nil, 0, 5), opRetain, opCrash(0)}); !same(codes, [][]int{{impl.PutMany}, {0}, {0}, {0}, {0}, {0}}) || !same(got, impl.NewStore(none)) {
		t.Errorf("%v, %v", got, codes)
	}
}

func TestCutsOfAStore(t *testing.T) {
	for _, x := range []struct {
		window, newest, want int
	}{
		// Newest - Window below 0, just 0, above.
		{31, 30, 0}, {maxTime, 30, 0}, {30, 30, 0}, {29, 30, 0}, {21, 30, 0}, {20, 30, 1}, {19, 30, 1}, {11, 30, 1}, {10, 30, 2}, {1, 30, 2}, {0, 30, 3}, {0, 29, 2}, {5, 200, 3}, {0, maxTime, 3}, {maxTime, maxTime, 0}, {maxTime - 10, maxTime, 1}, {maxTime - 9, maxTime, 0},
	} {
		c := impl.StoreConf{Window: x.window, Limit: 5, Base: 10, Keep: 25}
		s := stored(t, c, opPut(ats("up", 2, 9, 10, 19, 25, x.newest)...))
		next, codes := checkStep(t, c, s, opCut)
		if !slices.Equal(codes, []int{x.want}) || len(next.Blocks) != x.want || !same(saidBy(c, next), saidBy(c, s)) || !bytes.Equal(next.Log, checkpointModel(next.Head)) || next.Head.Newest != x.newest {
			t.Errorf("%+v: %v, %v", x, codes, next)
		}
		// At once again nothing is to be cut.
		if again, codes := checkStep(t, c, next, opCut); codes[0] != 0 || !same(again, next) {
			t.Errorf("%+v, once more: %v, %v", x, codes, again)
		}
	}
	// A store in which there is nothing.
	c := impl.StoreConf{Window: 0, Limit: 5, Base: 10, Keep: 25}
	if next, codes := checkStep(t, c, impl.NewStore(c), opCut); codes[0] != 0 || !same(next, impl.NewStore(c)) {
		t.Errorf("%v, %v", next, codes)
	}
	// The blocks come behind the others, with a gap between them.
	s := stored(t, c, opPut(ats("up", 3, 14, 20)...), opCut, opPut(ats("b", 47, 58, 60)...), opCut)
	if !slices.Equal(beginsOf(s.Blocks), []int{0, 10, 20, 40, 50}) || len(s.Head.Series) != 1 {
		t.Errorf("%v", s)
	}
}

func TestCutsOfAStoreAtMaxBlocks(t *testing.T) {
	c := impl.StoreConf{Window: 0, Limit: 5, Base: 1, Keep: 25}
	for _, n := range []int{99, 100, 101, 102, 300} {
		s := stored(t, c, opPut(ats("up", upFrom(n+1, 0, 1)...)...))
		next, codes := checkStep(t, c, s, opCut)
		if n <= 100 && (codes[0] != n || len(next.Blocks) != n || len(next.Head.Series[0].Samples) != 1) || n > 100 && (codes[0] != -1 || !same(next, s)) {
			t.Errorf("%d blocks at once: %v", n, codes)
		}
	}
	for _, n := range []int{59, 60, 61} {
		s := stored(t, c, opPut(ats("up", upFrom(41, 0, 2)...)...), opCut, opPut(ats("up", upFrom(n, 81, 2)...)...))
		next, codes := checkStep(t, c, s, opCut)
		if len(s.Blocks) != 40 || n <= 60 && (codes[0] != n || len(next.Blocks) != 40+n) || n > 60 && (codes[0] != -1 || !same(next, s)) {
			t.Errorf("40 blocks and %d: %v", n, codes)
		}
		// Compacted they have room.
		if next, codes := checkStep(t, c, stored(t, c, opPut(ats("up", upFrom(41, 0, 2)...)...), opCut, opPut(ats("up", upFrom(n, 81, 2)...)...), opCompact), opCut); codes[0] != n || !same(saidBy(c, next), saidBy(c, s)) {
			t.Errorf("40 blocks compacted and %d: %v", n, codes)
		}
	}
	// With as many as can be, a cut of nothing is not refused.
	s := stored(t, c, opPut(ats("up", upFrom(101, 0, 1)...)...), opCut)
	if next, codes := checkStep(t, c, s, opCut); codes[0] != 0 || !same(next, s) || len(s.Blocks) != 100 {
		t.Errorf("%v", codes)
	}
}

func TestDeletionsFromAStore(t *testing.T) {
	c := impl.StoreConf{Window: 5, Limit: 9, Base: 10, Keep: 25}
	head := stored(t, c, opPut(append(ats("up", 21, 22, 24, 26), ats("load", 23, 24)...)...))
	both := stored(t, c, opPut(append(ats("up", 3, 14, 22, 26), ats("load", 24, 25)...)...), opCut)
	if len(head.Blocks) > 0 || len(both.Blocks) != 2 {
		t.Fatalf("%v, %v", head, both)
	}
	up, none := exactly(labelsOf("_name", "up")), exactly(labelsOf("_name", "none"))
	for _, x := range []struct {
		name     string
		s        impl.Store
		m        []impl.Matcher
		from, to int
		want     int
		left     string
	}{
		{"all of the head", head, nil, 0, 100, 6, ""}, {"all times", head, nil, 0, maxTime, 6, ""}, {"one series", head, up, 0, 100, 4, "load:23,24 "}, {"some times", head, nil, 22, 24, 4, "up:21,26 "}, {"some times of one", head, up, 22, 24, 2, "load:23,24 up:21,26 "}, {"one time", head, nil, 24, 24, 2, "load:23 up:21,22,26 "}, {"the last", head, nil, 26, 26, 1, "load:23,24 up:21,22,24 "}, {"none that fits", head, none, 0, 100, 0, "load:23,24 up:21,22,24,26 "}, {"no times", head, nil, 24, 23, 0, "load:23,24 up:21,22,24,26 "}, {"ahead of all", head, nil, 0, 20, 0, "load:23,24 up:21,22,24,26 "}, {"behind all", head, nil, 27, maxTime, 0, "load:23,24 up:21,22,24,26 "}, {"just times that are not there", head, nil, 25, 25, 0, "load:23,24 up:21,22,24,26 "},
		{"all of both", both, nil, 0, 100, 4, ""}, {"of the blocks alone", both, nil, 0, 19, 0, "load:24,25 up:22,26 "}, {"of one block", both, nil, 10, 19, 0, "load:24,25 up:3,22,26 "}, {"of the head alone", both, nil, 20, 25, 3, "up:3,14,26 "}, {"of a block and the head", both, nil, 14, 22, 1, "load:24,25 up:3,26 "}, {"one series of both", both, up, 14, 26, 2, "load:24,25 up:3 "}, {"nothing of both", both, none, 0, 100, 0, "load:24,25 up:3,14,22,26 "}, {"no times of both", both, nil, 22, 3, 0, "load:24,25 up:3,14,22,26 "},
		{"a store of nothing", impl.NewStore(c), nil, 0, 100, 0, ""},
	} {
		next, codes := checkStep(t, c, x.s, opDelete(x.m, x.from, x.to))
		said := ""
		for _, l := range saidBy(c, next) {
			said += impl.ValueOf(l.Labels, "_name") + ":"
			for i, y := range l.Samples {
				if i > 0 {
					said += ","
				}
				said += fmt.Sprint(y.Time)
			}
			said += " "
		}
		if !slices.Equal(codes, []int{x.want}) || said != x.left || !bytes.Equal(next.Log, checkpointModel(next.Head)) || next.Head.Newest != x.s.Head.Newest || len(next.Blocks) != len(x.s.Blocks) {
			t.Errorf("%s: %v, %q", x.name, codes, said)
		}
	}
	// What went from the head may be put again, what went from blocks may not.
	next, _ := checkStep(t, c, both, opDelete(nil, 0, 100))
	if _, codes := checkStep(t, c, next, opPut(ats("up", 14, 20, 21, 22, 26)...)); !slices.Equal(codes, []int{3, 3, 0, 0, 0}) {
		t.Errorf("%v", codes)
	}
	for i, m := range badMatchers() {
		for _, s := range []impl.Store{both, impl.NewStore(c)} {
			if next, codes := checkStep(t, c, s, opDelete(m, 0, 100)); !slices.Equal(codes, []int{-1}) || !same(next, s) {
				t.Errorf("bad matchers %d: %v", i, codes)
			}
		}
	}
	if _, codes := checkStep(t, c, both, opDelete(manyMatchers(10), 0, 100)); codes[0] == -1 {
		t.Errorf("as many matchers as can be: %v", codes)
	}
	for _, time := range []int{math.MinInt, -1, 0, 1, maxTime, maxTime + 1, math.MaxInt} {
		fine := time >= 0 && time <= maxTime
		for _, op := range []impl.StoreOp{opDelete(nil, time, 30), opDelete(nil, 0, time), opDelete(nil, time, time), opDelete(nil, 30, time)} {
			for _, s := range []impl.Store{both, head, impl.NewStore(c)} {
				if next, codes := checkStep(t, c, s, op); codes[0] != -1 != fine || !fine && !same(next, s) {
					t.Errorf("%d..%d: %v", op.From, op.To, codes)
				}
			}
		}
	}
}

// A block that would have more stones than one may have lets nothing be deleted, from the head neither.
func TestDeletionsWithTooManyStones(t *testing.T) {
	c := impl.StoreConf{Window: 5, Limit: 9, Base: 10000, Keep: 25}
	for _, n := range []int{99, 100} {
		b := manyStones(n)
		b.Level = 1
		s := stored(t, c, opPut(ats("up", 10000, 10001)...))
		s.Blocks = []impl.Block{b}
		next, codes := checkStep(t, c, s, opDelete(nil, 9000, 10000))
		if n == 99 && (codes[0] != 1 || len(next.Blocks[0].Stones) != 100) || n == 100 && (codes[0] != -1 || !same(next, s)) {
			t.Errorf("%d stones: %v", n, codes)
		}
		// In the head alone it can be done.
		if next, codes := checkStep(t, c, s, opDelete(nil, 10000, 10000)); codes[0] != 1 || len(next.Blocks[0].Stones) != n {
			t.Errorf("%d stones, the head alone: %v", n, codes)
		}
	}
}

func TestCompactedStores(t *testing.T) {
	c := impl.StoreConf{Window: 0, Limit: 9, Base: 10, Keep: maxTime}
	for _, x := range []struct {
		times []int
		want  [][2]int
	}{
		{nil, nil}, {[]int{5}, nil}, {[]int{5, 10}, [][2]int{{0, 1}}}, {upFrom(4, 5, 10), [][2]int{{0, 1}, {10, 1}, {20, 1}}}, {upFrom(5, 5, 10), [][2]int{{0, 2}, {30, 1}}}, {upFrom(11, 5, 10), [][2]int{{0, 3}, {90, 1}}}, {upFrom(29, 5, 10), [][2]int{{0, 4}, {270, 1}}}, {[]int{5, 15, 955, 965, 1000}, [][2]int{{0, 4}, {930, 2}, {960, 1}}},
	} {
		s := impl.NewStore(c)
		if len(x.times) > 0 {
			s = stored(t, c, opPut(ats("up", x.times...)...), opCut)
		}
		next, codes := checkStep(t, c, s, opCompact)
		if !slices.Equal(codes, []int{len(x.want)}) || !slices.Equal(levelsOf(next.Blocks), x.want) || !same(next.Head, s.Head) || !bytes.Equal(next.Log, s.Log) || !same(saidBy(c, next), saidBy(c, s)) {
			t.Errorf("%v: %v, %v", x.times, codes, levelsOf(next.Blocks))
		}
	}
	// What stones cover goes with a compaction; what is said stays.
	s := stored(t, c, opPut(ats("up", upFrom(5, 5, 10)...)...), opCut, opDelete(nil, 10, 20))
	next, _ := checkStep(t, c, s, opCompact)
	if !same(saidBy(c, next), saidBy(c, s)) || len(s.Blocks[1].Stones) != 1 || len(next.Blocks[0].Stones) > 0 || len(next.Blocks[0].Series[0].Samples) != 2 {
		t.Errorf("%v", next)
	}
}

func TestRetainedStores(t *testing.T) {
	for _, x := range []struct {
		newest, keep, want int
	}{
		// Blocks that end at 10, 20 and 30: Newest - Keep just below, at and above these, and below 0.
		{49, 40, 3}, {49, 39, 2}, {49, 38, 2}, {49, 30, 2}, {49, 29, 1}, {49, 28, 1}, {49, 20, 1}, {49, 19, 0}, {49, 18, 0}, {49, 0, 0}, {49, 49, 3}, {49, 50, 3}, {49, maxTime, 3}, {maxTime, maxTime, 3}, {maxTime, maxTime - 9, 3}, {maxTime, maxTime - 10, 2}, {maxTime, 0, 0},
	} {
		c := impl.StoreConf{Window: 5, Limit: 9, Base: 10, Keep: x.keep}
		s := stored(t, c, opPut(ats("up", 5, 15, 25, 40)...), opCut, opPut(at("b", x.newest)))
		next, codes := checkStep(t, c, s, opRetain)
		if len(s.Blocks) != 3 || !slices.Equal(codes, []int{x.want}) || !same(next.Blocks, s.Blocks[3-x.want:]) || !same(next.Head, s.Head) || !bytes.Equal(next.Log, s.Log) {
			t.Errorf("%+v: %v, %v", x, codes, next)
		}
	}
	c := impl.StoreConf{Window: 50, Limit: 9, Base: 10, Keep: 0}
	if next, codes := checkStep(t, c, impl.NewStore(c), opRetain); codes[0] != 0 || !same(next, impl.NewStore(c)) {
		t.Errorf("%v, %v", next, codes)
	}
	// Where all blocks have gone the window alone says what is old.
	s := stored(t, c, opPut(ats("up", 5, 15, 70)...), opCut, opRetain)
	if _, codes := checkStep(t, c, s, opPut(ats("up", 15, 19, 20)...)); !slices.Equal(codes, []int{3, 3, 0}) || len(s.Blocks) > 0 {
		t.Errorf("%v, %v", codes, s)
	}
	narrow := stored(t, impl.StoreConf{Window: 0, Limit: 9, Base: 10, Keep: 0}, opPut(ats("up", 5, 15, 40)...), opCut)
	narrow.Head.Window = 50
	_, codes := checkStep(t, c, narrow, opPut(ats("up", 0, 15, 19, 20)...))
	next, _ := checkStep(t, c, narrow, opRetain)
	_, more := checkStep(t, c, next, opPut(ats("up", 0, 15, 19, 20)...))
	if !slices.Equal(codes, []int{3, 3, 3, 0}) || !slices.Equal(more, []int{0, 0, 0, 0}) {
		t.Errorf("%v, %v", codes, more)
	}
}

func TestCrashes(t *testing.T) {
	c := impl.StoreConf{Window: 5, Limit: 9, Base: 10, Keep: 25}
	full := stored(t, c, opPut(ats("up", 3, 14, 22, 26)...), opCut, opPut(ats("a", 24, 27)...))
	for _, s := range []impl.Store{full, impl.NewStore(c), stored(t, c, opPut(at("up", 5)))} {
		size := len(s.Log)
		for _, lost := range []int{math.MinInt, -size, -2, -1, size + 1, size + 2, 2*size + 5, maxLog + 1, math.MaxInt} {
			if lost == 0 {
				continue
			}
			if next, codes := checkStep(t, c, s, opCrash(lost)); !slices.Equal(codes, []int{-1}) || !same(next, s) {
				t.Errorf("%d of %d lost: %v", lost, size, codes)
			}
		}
		if next, codes := checkStep(t, c, s, opCrash(0)); !slices.Equal(codes, []int{size}) || !same(next, s) {
			t.Errorf("nothing lost: %v", codes)
		}
		if next, codes := checkStep(t, c, s, opCrash(size)); !slices.Equal(codes, []int{0}) || !same(next, impl.Store{Head: impl.NewHead(5, 9), Blocks: s.Blocks}) {
			t.Errorf("all lost: %v, %v", codes, next)
		}
		for lost := range size + 1 {
			checkStep(t, c, s, opCrash(lost))
		}
	}
	// A log with puts that its head did not take is a log still.
	log := slices.Concat(seriesRecord(1, labelsOf("_name", "up")), samplesRecord(sampleRow{1, 90, 1}), samplesRecord(sampleRow{1, 2, 1}, sampleRow{1, 90, 7}), markRecord(99), samplesRecord(sampleRow{1, 90, 2}))
	s := impl.Store{Head: impl.Replay(5, 9, log), Log: log}
	if !checkGoodStore(t, c, s) || len(s.Head.Series[0].Samples) != 1 || s.Head.Newest != 99 {
		t.Fatalf("%v", s)
	}
	checkCrashesOf(t, c, s, cutsOf(s.Log), ats("up", 2, 85, 94, 100))
	if next, _ := checkStep(t, c, s, opDelete(nil, 0, 50)); !bytes.Equal(next.Log, checkpointModel(s.Head)) {
		t.Errorf("%v", next)
	}
}

func TestOpsOfNoKind(t *testing.T) {
	c := impl.StoreConf{Window: 5, Limit: 9, Base: 10, Keep: 25}
	s := stored(t, c, opPut(ats("up", 3, 14, 26)...), opCut)
	for _, kind := range []int{0, -1, 7, 8, 100, math.MinInt, math.MaxInt} {
		for _, op := range []impl.StoreOp{{Kind: kind}, {Kind: kind, Puts: ats("up", 30), From: 3, To: 4, Lost: 1}} {
			if next, codes := checkStep(t, c, s, op); !slices.Equal(codes, []int{-1}) || !same(next, s) {
				t.Errorf("kind %d: %v", kind, codes)
			}
		}
	}
	// What an op of another kind has beside it says nothing.
	more := impl.StoreOp{Puts: slices.Repeat(ats("up", -5), 501), Match: manyMatchers(11), From: -5, To: maxTime + 5, Lost: -5}
	for _, kind := range []int{impl.OpCut, impl.OpCompact, impl.OpRetain} {
		more.Kind = kind
		next, codes := checkStep(t, c, s, more)
		if want, wantCodes := checkStep(t, c, s, impl.StoreOp{Kind: kind}); !same(next, want) || !slices.Equal(codes, wantCodes) {
			t.Errorf("kind %d: %v", kind, codes)
		}
	}
}

func badConfs() []impl.StoreConf {
	c := impl.StoreConf{Window: 5, Limit: 9, Base: 10, Keep: 25}
	var out []impl.StoreConf
	for _, change := range []struct {
		field *int
		bad   []int
	}{
		{&c.Window, []int{-1, maxTime + 1}}, {&c.Limit, []int{-1, 201}}, {&c.Base, []int{0, -1, maxBase + 1}}, {&c.Keep, []int{-1, maxTime + 1}},
	} {
		was := *change.field
		for _, n := range append(change.bad, math.MinInt, math.MaxInt) {
			*change.field = n
			out = append(out, c)
		}
		*change.field = was
	}
	return append(out, impl.StoreConf{})
}

func TestConfs(t *testing.T) {
	for _, window := range []int{-1, 0, 5, maxTime, maxTime + 1} {
		for _, limit := range []int{-1, 0, 9, 200, 201} {
			for _, base := range []int{-1, 0, 1, 10, maxBase, maxBase + 1} {
				for _, keep := range []int{-1, 0, 25, maxTime, maxTime + 1} {
					c := impl.StoreConf{Window: window, Limit: limit, Base: base, Keep: keep}
					want := impl.Store{}
					if goodConfModel(c) {
						want.Head = impl.Head{Window: window, Limit: limit, Newest: -1}
					}
					if impl.GoodConf(c) != goodConfModel(c) || !same(impl.NewStore(c), want) || impl.GoodStore(c, want) != goodConfModel(c) {
						t.Errorf("%v: %v, %v", c, impl.GoodConf(c), impl.NewStore(c))
					}
				}
			}
		}
	}
	good := impl.StoreConf{Window: 5, Limit: 9, Base: 10, Keep: 25}
	s := stored(t, good, opPut(ats("up", 3, 14, 26)...), opCut)
	for _, c := range badConfs() {
		if impl.GoodConf(c) || !same(impl.NewStore(c), impl.Store{}) {
			t.Errorf("%v is good", c)
		}
		zeroStore(t, fmt.Sprint(c), c, s)
		zeroStore(t, fmt.Sprint(c), c, impl.Store{})
		zeroStore(t, fmt.Sprint(c), c, impl.Store{Head: impl.Head{Window: c.Window, Limit: c.Limit, Newest: -1}})
		if got, codes := checkRunStore(t, c, []impl.StoreOp{opCut}); !same(got, impl.Store{}) || len(codes) > 0 {
			t.Errorf("%v: %v, %v", c, got, codes)
		}
		if got, codes := checkRunStore(t, c, nil); !same(got, impl.Store{}) || len(codes) > 0 {
			t.Errorf("%v: %v, %v", c, got, codes)
		}
	}
}

// zeroStore sees that a store which is not good has the zero answer everywhere.
func zeroStore(t *testing.T, name string, c impl.StoreConf, s impl.Store) {
	t.Helper()
	if checkGoodStore(t, c, s) {
		t.Errorf("%s: good: %s", name, shortly(s))
	}
	for _, op := range []impl.StoreOp{opPut(at("up", 30)), opPut(), opCut, opCompact, opDelete(nil, 0, 5), opRetain, opCrash(0), {Kind: 9}} {
		if next, codes := checkStep(t, c, s, op); !same(next, impl.Store{}) || len(codes) > 0 {
			t.Errorf("%s, kind %d: %s, %v", name, op.Kind, shortly(next), codes)
		}
	}
	if got := checkSelectStore(t, c, s, nil, 0, maxTime); len(got) > 0 {
		t.Errorf("%s: says %s", name, shortly(got))
	}
}

func TestStoresThatAreNotGood(t *testing.T) {
	c := impl.StoreConf{Window: 5, Limit: 9, Base: 10, Keep: 25}
	good := stored(t, c, opPut(append(ats("up", 3, 14, 22, 26), at("load", 25))...), opCut, opPut(at("up", 27)))
	if !checkGoodStore(t, c, good) || lastEnd(good.Blocks) != 20 || good.Head.Series[1].Samples[0].Time != 22 {
		t.Fatalf("%v", good)
	}
	with := func(change func(s *impl.Store)) impl.Store {
		s := laid(good, 0)
		change(&s)
		return s
	}
	for name, s := range map[string]impl.Store{
		"zero":              {},
		"another window":    with(func(s *impl.Store) { s.Head.Window = 6 }),
		"another limit":     with(func(s *impl.Store) { s.Head.Limit = 8 }),
		"a later newest":    with(func(s *impl.Store) { s.Head.Newest++ }),
		"an earlier newest": with(func(s *impl.Store) { s.Head.Newest-- }),
		"another value":     with(func(s *impl.Store) { s.Head.Series[0].Samples[0].Value++ }),
		"another time":      with(func(s *impl.Store) { s.Head.Series[0].Samples[0].Time-- }),
		"another label":     with(func(s *impl.Store) { s.Head.Series[0].Labels[0].Value = "loae" }),
		"a sample less":     with(func(s *impl.Store) { s.Head.Series[1].Samples = s.Head.Series[1].Samples[1:] }),
		"a sample more": with(func(s *impl.Store) {
			s.Head.Series[0].Samples = append(s.Head.Series[0].Samples, impl.Sample{Time: 26})
		}),
		"a series less":          with(func(s *impl.Store) { s.Head.Series = s.Head.Series[:1] }),
		"no series":              with(func(s *impl.Store) { s.Head.Series = nil }),
		"a series more":          with(func(s *impl.Store) { s.Head.Series = append(s.Head.Series, series("x", impl.Sample{Time: 25})) }),
		"a series twice":         with(func(s *impl.Store) { s.Head.Series = append(s.Head.Series, s.Head.Series[1]) }),
		"a series without any":   with(func(s *impl.Store) { s.Head.Series = append(s.Head.Series, series("x")) }),
		"series in wrong order":  with(func(s *impl.Store) { slices.Reverse(s.Head.Series) }),
		"no log":                 with(func(s *impl.Store) { s.Log = nil }),
		"a log without its end":  with(func(s *impl.Store) { s.Log = s.Log[:len(s.Log)-1] }),
		"a log with a byte more": with(func(s *impl.Store) { s.Log = append(s.Log, 3) }),
		"a log with more":        with(func(s *impl.Store) { s.Log = append(s.Log, seriesRecord(3, labelsOf("_name", "x"))...) }),
		"a log twice":            with(func(s *impl.Store) { s.Log = append(s.Log, s.Log...) }),
		"a log with a bit turned": with(func(s *impl.Store) {
			s.Log[3] ^= 4
		}),
		"a log that says more":      with(func(s *impl.Store) { s.Log = append(s.Log, samplesRecord(sampleRow{1, 28, 28})...) }),
		"a log with a later mark":   with(func(s *impl.Store) { s.Log = append(s.Log, markRecord(28)...) }),
		"a log of another":          with(func(s *impl.Store) { s.Log = stored(t, c, opPut(at("up", 27))).Log }),
		"a log beyond MaxLog":       with(func(s *impl.Store) { s.Log = make([]byte, maxLog+1) }),
		"a long log beyond MaxLog":  {Head: impl.Head{Window: 5, Limit: 9, Newest: maxTime}, Log: logOfSize(maxLog + 1)},
		"a long log, none told":     {Head: impl.NewHead(5, 9), Log: logOfSize(maxLog + 1)},
		"blocks in wrong order":     with(func(s *impl.Store) { slices.Reverse(s.Blocks) }),
		"a block twice":             with(func(s *impl.Store) { s.Blocks = append(s.Blocks, s.Blocks[1]) }),
		"a block of no level":       with(func(s *impl.Store) { s.Blocks[0].Level = 0 }),
		"a block that is too long":  with(func(s *impl.Store) { s.Blocks[1].To = 21 }),
		"a block of another base":   with(func(s *impl.Store) { s.Blocks[1].From = 11 }),
		"a sample of another block": with(func(s *impl.Store) { s.Blocks[1].Series[0].Samples[0].Time = 9 }),
		"too late a block":          with(func(s *impl.Store) { s.Blocks = append(s.Blocks, blockAt(10, 1, 2)) }),
		"too wide a block":          with(func(s *impl.Store) { s.Blocks = []impl.Block{blockAt(10, 2, 0)} }),
		"the next block":            with(func(s *impl.Store) { s.Blocks = append(s.Blocks, blockAt(10, 1, 3)) }),
	} {
		zeroStore(t, name, c, s)
	}
	// Where the log's head alone can't be the store's.
	for i, h := range badHeads() {
		if len(h.Series) > 300 || len(h.Series) > 0 && len(h.Series[0].Samples) > 3000 {
			continue // what is very great is asked for by GoodHead's own test
		}
		conf := impl.StoreConf{Window: h.Window, Limit: h.Limit, Base: 10, Keep: 25}
		zeroStore(t, fmt.Sprint("bad head ", i), conf, impl.Store{Head: h, Log: impl.Checkpoint(h)})
	}
	for i, l := range badShelves() {
		zeroStore(t, fmt.Sprint("bad shelf ", i), c, impl.Store{Head: impl.NewHead(5, 9), Blocks: l})
	}
	for i, l := range goodShelves() {
		if !checkGoodStore(t, c, impl.Store{Head: impl.NewHead(5, 9), Blocks: l}) {
			t.Errorf("good shelf %d", i)
		}
	}
}

// A sample of the head at the To of the last block is right, one time ahead of it is not; of whichever series.
func TestHeadsBehindTheLastBlock(t *testing.T) {
	c := impl.StoreConf{Window: 50, Limit: 9, Base: 10, Keep: 25}
	for _, x := range []struct {
		times []int
		good  bool
	}{{[]int{20}, true}, {[]int{19}, false}, {[]int{21, 20}, true}, {[]int{20, 19}, false}, {[]int{19, 20}, false}, {[]int{0, 40}, false}, {[]int{9}, false}, {[]int{40}, true}, {nil, true}} {
		s := impl.NewStore(c)
		for i, time := range x.times {
			s, _ = impl.StoreStep(c, s, opPut(at([]string{"a", "b"}[i], time)))
		}
		if s.Blocks = shelfAt(1, 0, 1); checkGoodStore(t, c, s) != x.good {
			t.Errorf("%v: %v", x.times, s)
		}
		if s.Blocks = shelfAt(1, 1); checkGoodStore(t, c, s) != x.good {
			t.Errorf("%v: %v", x.times, s)
		}
		if s.Blocks = nil; !checkGoodStore(t, c, s) {
			t.Errorf("%v without blocks: %v", x.times, s)
		}
	}
	// At the last times there are.
	one := impl.StoreConf{Window: 50, Limit: 9, Base: 1, Keep: 25}
	s := stored(t, one, opPut(at("up", maxTime)))
	if s.Blocks = []impl.Block{blockAt(1, 1, maxTime-1)}; !checkGoodStore(t, one, s) {
		t.Errorf("%v", s)
	}
	if s.Blocks = []impl.Block{blockAt(1, 1, maxTime)}; checkGoodStore(t, one, s) {
		t.Errorf("%v", s)
	}
	s = impl.Store{Head: impl.NewHead(50, 9), Blocks: s.Blocks}
	if next, codes := checkStep(t, one, s, opPut(ats("up", 0, maxTime-1, maxTime)...)); !slices.Equal(codes, []int{3, 3, 3}) || !same(next, s) {
		t.Errorf("%v, %v", next, codes)
	}
}

func TestRunsOfAStore(t *testing.T) {
	c := impl.StoreConf{Window: 5, Limit: 10, Base: 10, Keep: 25}
	for _, none := range [][]impl.StoreOp{nil, {}} {
		if got, codes := checkRunStore(t, c, none); !same(got, impl.NewStore(c)) || len(codes) > 0 {
			t.Errorf("no ops: %v, %v", got, codes)
		}
	}
	for _, n := range []int{1, 2, 59, 60, 61, 62, 1 << 12} {
		var ops []impl.StoreOp
		for i := range n {
			ops = append(ops, opPut(at("up", 3*i)))
		}
		got, codes := checkRunStore(t, c, ops)
		if n <= 60 && (len(codes) != n || got.Head.Newest != 3*(n-1)) || n > 60 && (len(codes) > 0 || !same(got, impl.Store{})) {
			t.Errorf("%d ops: %d", n, len(codes))
		}
	}
	got, codes := checkRunStore(t, c, []impl.StoreOp{opPut(ats("up", 3, 14, 26, 2)...), opCut, {}, opPut(at("up", 19), at("up", 22)), opDelete(nil, 14, 22), opCrash(1), opPut(), opPut(ats("up", 60, 70, 80)...), opCut, opCompact, opRetain, opCrash(-1), opCrash(0)})
	if want := [][]int{{0, 0, 0, 3}, {2}, {-1}, {3, 0}, {1}, {27}, {-1}, {0, 0, 0}, {2}, {2}, {1}, {-1}, {len(got.Log)}}; !same(codes, want) {
		t.Errorf("%v, not %v", codes, want)
	}
}

func TestSelectedStores(t *testing.T) {
	c := impl.StoreConf{Window: 5, Limit: 10, Base: 10, Keep: 25}
	s := stored(t, c, opPut(append(ats("old", 4, 5), ats("up", 3, 14, 22, 26)...)...), opCut, opPut(append(ats("up", 27), ats("new", 25, 28)...)...))
	if len(s.Blocks) != 2 || len(s.Head.Series) != 2 {
		t.Fatalf("%v", s)
	}
	up := exactly(labelsOf("_name", "up"))
	for _, x := range []struct {
		m        []impl.Matcher
		from, to int
		want     map[string][]int
	}{
		// The same series lies in blocks and in the head; others in one of them alone.
		{nil, 0, maxTime, map[string][]int{"up": {3, 14, 22, 26, 27}, "old": {4, 5}, "new": {25, 28}}}, {nil, math.MinInt, math.MaxInt, map[string][]int{"up": {3, 14, 22, 26, 27}, "old": {4, 5}, "new": {25, 28}}},
		{up, 0, maxTime, map[string][]int{"up": {3, 14, 22, 26, 27}}}, {up, 14, 22, map[string][]int{"up": {14, 22}}}, {up, 15, 21, nil}, {nil, 5, 25, map[string][]int{"up": {14, 22}, "old": {5}, "new": {25}}}, {nil, 20, 100, map[string][]int{"up": {22, 26, 27}, "new": {25, 28}}}, {nil, 0, 19, map[string][]int{"up": {3, 14}, "old": {4, 5}}}, {nil, 28, 28, map[string][]int{"new": {28}}}, {nil, 29, maxTime, nil}, {nil, 22, 14, nil}, {nil, math.MaxInt, math.MinInt, nil}, {exactly(labelsOf("_name", "none")), 0, maxTime, nil},
	} {
		got := map[string][]int{}
		for _, l := range checkSelectStore(t, c, s, x.m, x.from, x.to) {
			got[impl.ValueOf(l.Labels, "_name")] = timesOf(l.Samples)
		}
		if fmt.Sprint(got) != fmt.Sprint(x.want) {
			t.Errorf("%v, %d..%d: %v", x.m, x.from, x.to, got)
		}
	}
	for i, m := range badMatchers() {
		if got := checkSelectStore(t, c, s, m, 0, maxTime); len(got) > 0 {
			t.Errorf("bad matchers %d: %v", i, got)
		}
	}
	if got := checkSelectStore(t, c, s, slices.Repeat(up, 10), 0, maxTime); len(got) != 1 {
		t.Errorf("as many matchers as can be: %v", got)
	}
	if got := checkSelectStore(t, c, impl.NewStore(c), nil, 0, maxTime); len(got) > 0 {
		t.Errorf("of nothing: %v", got)
	}
}

// Series and samples that are, in blocks and head together, as many as a good list has, or one more.
func TestSelectedStoresAtTheirLimits(t *testing.T) {
	c := impl.StoreConf{Window: 0, Limit: 200, Base: 1000, Keep: 25}
	for _, n := range []int{99, 100, 101} {
		s := impl.Store{Head: impl.NewHead(0, 200), Blocks: []impl.Block{blockAt(1000, 1, 0, manySeries(100)...)}}
		var puts []impl.Put
		for i := range n {
			puts = append(puts, at(fmt.Sprint("t", i), 1000))
		}
		s, _ = checkStep(t, c, s, opPut(puts...))
		got := checkSelectStore(t, c, s, nil, 0, maxTime)
		if n <= 100 && len(got) != 100+n || n > 100 && len(got) > 0 {
			t.Errorf("100 series and %d: %d", n, len(got))
		}
		if a, b := checkSelectStore(t, c, s, nil, 0, 999), checkSelectStore(t, c, s, nil, 1000, maxTime); len(a) != 100 || len(b) != n {
			t.Errorf("in parts %d and %d", len(a), len(b))
		}
	}
	wide := impl.StoreConf{Window: 0, Limit: 200, Base: 3000, Keep: 25}
	for _, n := range []int{1, 2, 3} {
		s := impl.Store{Head: impl.NewHead(0, 200), Blocks: []impl.Block{fullSeries(blockAt(3000, 1, 0), 1998)}}
		s, _ = checkStep(t, wide, s, opPut(ats("up", upFrom(n, 3000, 1)...)...))
		got := checkSelectStore(t, wide, s, nil, 0, maxTime)
		if n <= 2 && (len(got) != 1 || len(got[0].Samples) != 1998+n) || n > 2 && len(got) > 0 {
			t.Errorf("1998 samples and %d: %s", n, shortly(got))
		}
	}
}

// Promise 12: never a part of what was taken is said: blocks that alone have too much say nothing, with whatever head behind them, and the spans of which they have just as much as can be are said whole.
func TestBlocksThatAloneAreTooMuch(t *testing.T) {
	c := impl.StoreConf{Window: 0, Limit: 200, Base: 1000, Keep: 25}
	for _, n := range []int{199, 200, 201, 250} {
		for _, heads := range []int{0, 1, 2} {
			s := impl.Store{Head: impl.NewHead(0, 200), Blocks: halves(n)}
			for i := range heads {
				s, _ = checkStep(t, c, s, opPut(at(fmt.Sprint("head", i), 2000)))
			}
			want := n + heads
			if want > 200 {
				want = 0
			}
			if got := checkSelectStore(t, c, s, nil, 0, maxTime); len(got) != want {
				t.Errorf("%d series in blocks, %d in the head: %d", n, heads, len(got))
			}
			// What fits, or lies in the span, is all that counts.
			first, second, last := checkSelectStore(t, c, s, nil, 0, 999), checkSelectStore(t, c, s, nil, 1000, 1999), checkSelectStore(t, c, s, nil, 2000, maxTime)
			if len(first) != (n+1)/2 || len(second) != n/2 || len(last) != heads {
				t.Errorf("%d and %d in parts: %d, %d, %d", n, heads, len(first), len(second), len(last))
			}
			likeHead := []impl.Matcher{{Name: "_name", Op: impl.MatchLike, Value: "head*"}}
			if got := checkSelectStore(t, c, s, likeHead, 0, maxTime); len(got) != heads {
				t.Errorf("%d and %d, those of the head: %d", n, heads, len(got))
			}
		}
	}
	// One series in blocks, head or both: from any time on it is said whole as long as it is not too long.
	for _, inBlocks := range []int{0, 1, 999, 1000, 1999, 2000, 2001, 3000} {
		s := impl.Store{Head: impl.NewHead(0, 200)}
		for k := 0; 1000*k < inBlocks; k++ {
			s.Blocks = append(s.Blocks, fullSeries(blockAt(1000, 1, k), min(1000, inBlocks-1000*k)))
		}
		end := lastEnd(s.Blocks)
		for _, inHead := range []int{0, 1, 500, 2000} {
			next := s
			for at := 0; at < inHead; at += 500 {
				next, _ = checkStep(t, c, next, opPut(ats("up", upFrom(min(500, inHead-at), end+at, 1)...)...))
			}
			all := inBlocks + inHead
			for _, from := range []int{0, max(0, inBlocks-2001), max(0, inBlocks-2000), max(0, all-2001), max(0, all-2000), end} {
				left := inHead + max(0, inBlocks-from)
				got := checkSelectStore(t, c, next, nil, from, maxTime)
				if left > 2000 && len(got) > 0 || left > 0 && left <= 2000 && (len(got) != 1 || len(got[0].Samples) != left) {
					t.Errorf("%d in blocks, %d in the head, from %d on: %s", inBlocks, inHead, from, shortly(got))
				}
			}
		}
	}
}

// Promise 12: what is said of puts that were all taken does not hang on where the cuts were.
func TestWhatIsSaidDoesNotHangOnWhereItLies(t *testing.T) {
	c := impl.StoreConf{Window: 0, Limit: 10, Base: 250, Keep: 25}
	for _, cuts := range [][]int{{0, 1, 2, 3, 4, 5}, {3}, {1, 4}, {2}, {0, 1, 2, 3}} {
		s := impl.NewStore(c)
		for k := range 6 {
			next, codes := checkStep(t, c, s, opPut(ats("up", upFrom(500, 500*k, 1)...)...))
			if slices.Max(codes) != impl.PutTaken {
				t.Fatalf("cuts %v: %v", cuts, codes)
			}
			if s = next; slices.Contains(cuts, k) {
				s, _ = checkStep(t, c, s, opCut)
			}
		}
		for _, x := range []struct{ from, to, want int }{{0, maxTime, 0}, {0, 1999, 2000}, {0, 2000, 0}, {1000, 2999, 2000}, {999, 2999, 0}, {500, 2499, 2000}, {499, 2499, 0}, {500, 2500, 0}, {2999, maxTime, 1}, {0, 0, 1}} {
			got := 0
			for _, l := range checkSelectStore(t, c, s, nil, x.from, x.to) {
				got += len(l.Samples)
			}
			if got != x.want {
				t.Errorf("cuts %v, %d..%d: %d", cuts, x.from, x.to, got)
			}
		}
	}
}

func scribbleStore(s impl.Store) {
	for i := range s.Log[:cap(s.Log)] {
		s.Log[:cap(s.Log)][i] = 99
	}
	for _, b := range append(s.Blocks, impl.Block{Series: s.Head.Series}) {
		scribbleBlock(b)
	}
	clear(s.Blocks[:cap(s.Blocks)])
}

// Promise 27: answers are new memory: what is written into one shows in no other, and in no argument.
func TestAnswersOfStoresAreNew(t *testing.T) {
	r := rand.New(rand.NewSource(123))
	for range 60 {
		c := storeConfs(r)
		var ops []impl.StoreOp
		s := impl.NewStore(c)
		for range 12 {
			op := randomStoreOp(r, s)
			ops = append(ops, op)
			s, _ = impl.StoreStep(c, s, op)
		}
		was, opsWere := laid(s, 0), laid(ops, 0)
		for range 12 {
			op := randomStoreOp(r, s)
			opWas := laid(op, 0)
			next, codes := impl.StoreStep(c, s, op)
			scribbleStore(next)
			clear(codes[:cap(codes)])
			if !same(op, opWas) {
				t.Fatal("an op was written into")
			}
		}
		scribbleBlock(impl.Block{Series: impl.SelectStore(c, s, nil, 0, maxTime)})
		all, codes := impl.RunStore(c, ops)
		for _, l := range codes {
			clear(l[:cap(l)])
		}
		scribbleStore(all)
		if !same(s, was) || !same(ops, opsWere) {
			t.Fatal("an argument was written into")
		}
		checkGoodStore(t, c, s)
		checkRunStore(t, c, ops)
	}
}
