package tests

import (
	"fmt"
	"math"
	"math/rand"
	"slices"
	"strings"
	"testing"

	"loop.example/g00039/impl"
)

const ringSize = 1 << 31
const maxGap = 1000000

func isPlaceModel(n int) bool {
	return 0 <= n && n <= ringSize-1
}

func goodRingModel(r impl.Ring) bool {
	if r.Copies < 1 || r.Copies > 5 || len(r.Nodes) > 20 {
		return false
	}
	seen := map[int]bool{}
	for i, n := range r.Nodes {
		if !isNameModel(n.Id) || i > 0 && r.Nodes[i-1].Id >= n.Id || n.State != 1 && n.State != 2 && n.State != 3 || len(n.Tokens) == 0 || len(n.Tokens) > 16 {
			return false
		}
		for k, token := range n.Tokens {
			if !isPlaceModel(token) || k > 0 && n.Tokens[k-1] >= token || seen[token] {
				return false
			}
			seen[token] = true
		}
	}
	return true
}

func placeModel(l []impl.Label) int {
	if !goodLabelsModel(l) {
		return 0
	}
	return slowMix([]byte(labelsTextModel(l))) % ringSize
}

// ownersModel tells the numbers of the owners: the nodes by how far it is to the nearest token of each.
func ownersModel(r impl.Ring, place int) []int {
	far := map[int]int{}
	var nodes []int
	for i, n := range r.Nodes {
		far[i] = ringSize
		for _, token := range n.Tokens {
			way := token - place
			if way < 0 {
				way += ringSize
			}
			far[i] = min(far[i], way)
		}
		nodes = append(nodes, i)
	}
	slices.SortFunc(nodes, func(a, b int) int { return far[a] - far[b] })
	return nodes[:min(len(nodes), r.Copies)]
}

func goodClusterModel(c impl.Cluster) bool {
	return goodRingModel(c.Ring) && len(c.Data) == len(c.Ring.Nodes) && !slices.ContainsFunc(c.Data, func(l []impl.Series) bool { return !goodSeriesModel(l) })
}

// join writes a put, if the book has no greater Value there.
func (b *headBook) join(p impl.Put) {
	if v, there := b.values[labelsTextModel(p.Labels)][p.Time]; !there || v < p.Value {
		b.write(p)
	}
}

// joinListsModel tells all that lists have; it may be no good list.
func joinListsModel(lists ...[]impl.Series) []impl.Series {
	book := bookOf(impl.Head{})
	for _, l := range lists {
		for _, s := range l {
			for _, x := range s.Samples {
				book.join(impl.Put{Labels: s.Labels, Time: x.Time, Value: x.Value})
			}
		}
	}
	return book.head().Series
}

// hasRoom says whether a book that has a put too is still a good list.
func (b *headBook) hasRoom(p impl.Put) bool {
	at := b.values[labelsTextModel(p.Labels)]
	_, there := at[p.Time]
	return (at != nil || len(b.values) < 200) && (there || len(at) < 2000)
}

func writeModel(c impl.Cluster, puts []impl.Put) (impl.Cluster, []int) {
	if !goodClusterModel(c) || len(puts) > 500 {
		return impl.Cluster{}, nil
	}
	var books []*headBook
	for _, l := range c.Data {
		books = append(books, bookOf(impl.Head{Series: l}))
	}
	var took []int
	for _, p := range puts {
		n := 0
		if logPutModel(p) {
			for _, i := range ownersModel(c.Ring, placeModel(p.Labels)) {
				if c.Ring.Nodes[i].State == 1 && books[i].hasRoom(p) {
					books[i].join(p)
					n++
				}
			}
		}
		took = append(took, n)
	}
	out := impl.Cluster{Ring: c.Ring}
	for _, b := range books {
		out.Data = append(out.Data, b.head().Series)
	}
	return out, took
}

// quorumModel and leastModel are how many must take a put, and how many must be asked for it.
func quorumModel(copies int) int { return []int{0, 1, 2, 2, 3, 3}[copies] }
func leastModel(copies int) int  { return []int{0, 1, 1, 2, 2, 3}[copies] }

// placesOf are places at and beside all tokens, and at the ends.
func placesOf(r impl.Ring) []int {
	out := []int{0, 1, ringSize - 2, ringSize - 1}
	for _, n := range r.Nodes {
		for _, token := range n.Tokens {
			out = append(out, token, (token+1)%ringSize, (token+ringSize-1)%ringSize)
		}
	}
	return out
}

func canReadModel(r impl.Ring) bool {
	if !goodRingModel(r) {
		return false
	}
	for _, place := range placesOf(r) {
		up := 0
		for _, i := range ownersModel(r, place) {
			if r.Nodes[i].State != 2 {
				up++
			}
		}
		if up < leastModel(r.Copies) {
			return false
		}
	}
	return true
}

// heardModel tells all that nodes have which are not down; it may be no good list.
func heardModel(c impl.Cluster) []impl.Series {
	var lists [][]impl.Series
	for i, n := range c.Ring.Nodes {
		if n.State != 2 {
			lists = append(lists, c.Data[i])
		}
	}
	return joinListsModel(lists...)
}

func readModel(c impl.Cluster, m []impl.Matcher, from int, to int) ([]impl.Series, bool) {
	if !goodClusterModel(c) || !goodMatchersModel(m) {
		return nil, false
	}
	var out []impl.Series
	for _, s := range heardModel(c) {
		s.Samples = slices.DeleteFunc(s.Samples, func(x impl.Sample) bool { return x.Time < from || x.Time > to })
		if len(s.Samples) > 0 && fitsAllModel(m, s.Labels) {
			out = append(out, s)
		}
	}
	if !goodSeriesModel(out) {
		return nil, false
	}
	return out, canReadModel(c.Ring)
}

// repairedModel is what a node of a cluster has behind a repair.
func repairedModel(c impl.Cluster, node int) []impl.Series {
	var share []impl.Series
	for _, s := range heardModel(c) {
		if slices.Contains(ownersModel(c.Ring, placeModel(s.Labels)), node) {
			share = append(share, s)
		}
	}
	if out := joinListsModel(share, c.Data[node]); goodSeriesModel(out) {
		return out
	}
	return c.Data[node]
}

func repairModel(c impl.Cluster) impl.Cluster {
	if !goodClusterModel(c) {
		return impl.Cluster{}
	}
	out := impl.Cluster{Ring: c.Ring, Data: slices.Clone(c.Data)}
	for i, n := range c.Ring.Nodes {
		if n.State == 1 {
			out.Data[i] = repairedModel(c, i)
		}
	}
	return out
}

func joinRingModel(c impl.Cluster, n impl.RingNode) impl.Cluster {
	if !goodClusterModel(c) || n.State != 1 {
		return impl.Cluster{}
	}
	at := 0
	for at < len(c.Ring.Nodes) && c.Ring.Nodes[at].Id < n.Id {
		at++
	}
	out := impl.Cluster{Ring: impl.Ring{Copies: c.Ring.Copies, Nodes: slices.Insert(slices.Clone(c.Ring.Nodes), at, n)}}
	if !goodRingModel(out.Ring) {
		return impl.Cluster{}
	}
	out.Data = slices.Insert(slices.Clone(c.Data), at, nil)
	out.Data[at] = repairedModel(out, at)
	return out
}

func firstBehind(l []impl.Sample, time int) (impl.Sample, bool) {
	for _, x := range l {
		if x.Time > time {
			return x, true
		}
	}
	return impl.Sample{}, false
}

// dedupModel says it step by step, of rising lists of any length.
func dedupModel(a []impl.Sample, b []impl.Sample, gap int) []impl.Sample {
	lists, now := [2][]impl.Sample{a, b}, 0
	if len(a) == 0 && len(b) == 0 {
		return nil
	}
	if len(a) == 0 || len(b) > 0 && b[0].Time < a[0].Time {
		now = 1
	}
	out := []impl.Sample{lists[now][0]}
	for {
		last := out[len(out)-1].Time
		mine, goesOn := firstBehind(lists[now], last)
		other, there := firstBehind(lists[1-now], last)
		if !goesOn && !there {
			return out
		}
		if !goesOn || mine.Time-last > gap && there && other.Time < mine.Time {
			mine, now = other, 1-now
		}
		out = append(out, mine)
	}
}

func dedupSeriesModel(l []impl.Series, name string, gap int) []impl.Series {
	if !goodSeriesModel(l) || !isNameModel(name) || gap < 0 || gap > maxGap {
		return nil
	}
	var out []impl.Series
	for _, s := range l {
		left := slices.DeleteFunc(slices.Clone(s.Labels), func(x impl.Label) bool { return x.Name == name })
		at := slices.IndexFunc(out, func(o impl.Series) bool { return slices.Equal(o.Labels, left) })
		if at < 0 {
			out = append(out, impl.Series{Labels: left, Samples: s.Samples})
			continue
		}
		out[at].Samples = dedupModel(out[at].Samples, s.Samples, gap)
	}
	slices.SortFunc(out, func(a, b impl.Series) int { return compareModel(a.Labels, b.Labels) })
	if !goodSeriesModel(out) {
		return nil
	}
	return out
}

func checkRing(t *testing.T, r impl.Ring) bool {
	t.Helper()
	arg, kept := guarded(r)
	got := impl.GoodRing(arg)
	if got != goodRingModel(r) || !kept() {
		t.Fatalf("GoodRing of %s: %v", shortly(r), got)
	}
	if read := impl.CanRead(arg); read != canReadModel(r) || !kept() {
		t.Fatalf("CanRead of %s: %v", shortly(r), read)
	}
	return got
}

func checkOwners(t *testing.T, r impl.Ring, place int) []string {
	t.Helper()
	arg, kept := guarded(r)
	got := impl.OwnersOf(arg, place)
	var want []string
	if goodRingModel(r) && isPlaceModel(place) {
		for _, i := range ownersModel(r, place) {
			want = append(want, r.Nodes[i].Id)
		}
	}
	if !slices.Equal(got, want) || !kept() {
		t.Fatalf("OwnersOf %s, %d: %v, not %v", shortly(r), place, got, want)
	}
	checkOwn(t, got, arg)
	return got
}

func checkCluster(t *testing.T, c impl.Cluster) bool {
	t.Helper()
	arg, kept := guarded(c)
	got := impl.GoodCluster(arg)
	if got != goodClusterModel(c) || !kept() {
		t.Fatalf("GoodCluster of %s: %v", shortly(c), got)
	}
	return got
}

// clusterAnswer is a cluster and numbers, so that their memory is looked at together.
type clusterAnswer struct {
	Cluster impl.Cluster
	Took    []int
}

func checkWrite(t *testing.T, c impl.Cluster, puts []impl.Put) (impl.Cluster, []int) {
	t.Helper()
	arg, kept := guarded(c)
	list, listKept := guarded(puts)
	got, took := impl.WriteRing(arg, list)
	want, wantTook := writeModel(c, puts)
	if !same(got, want) || !slices.Equal(took, wantTook) {
		t.Fatalf("WriteRing of %s, %s:\n%s, %v\nnot %s, %v", shortly(c), shortly(puts), shortly(got), took, shortly(want), wantTook)
	}
	if !kept() || !listKept() {
		t.Fatalf("WriteRing wrote into %s or %s", shortly(c), shortly(puts))
	}
	checkOwn(t, clusterAnswer{got, took}, arg, list)
	if goodClusterModel(c) && len(puts) <= 500 && !checkCluster(t, got) {
		t.Fatalf("no good cluster behind %s: %s", shortly(puts), shortly(got))
	}
	return got, took
}

func checkReadRing(t *testing.T, c impl.Cluster, m []impl.Matcher, from int, to int) ([]impl.Series, bool) {
	t.Helper()
	arg, kept := guarded(c)
	list, listKept := guarded(m)
	got, ok := impl.ReadRing(arg, list, from, to)
	want, wantOk := readModel(c, m, from, to)
	if !same(got, want) || ok != wantOk || !kept() || !listKept() {
		t.Fatalf("ReadRing of %s, %v, %d, %d:\n%s, %v\nnot %s, %v", shortly(c), m, from, to, shortly(got), ok, shortly(want), wantOk)
	}
	checkOwn(t, got, arg, list)
	return got, ok
}

// readAll is all that a cluster says.
func readAll(c impl.Cluster) ([]impl.Series, bool) {
	return impl.ReadRing(c, nil, math.MinInt, math.MaxInt)
}

// checkRepair sees that a cluster repaired is read as before, and is as it is when it is repaired once more.
func checkRepair(t *testing.T, c impl.Cluster) impl.Cluster {
	t.Helper()
	arg, kept := guarded(c)
	got := impl.RepairRing(arg)
	if want := repairModel(c); !same(got, want) || !kept() {
		t.Fatalf("RepairRing of %s:\n%s\nnot %s", shortly(c), shortly(got), shortly(want))
	}
	checkOwn(t, got, arg)
	if !goodClusterModel(c) {
		return got
	}
	before, ok := readAll(c)
	after, still := readAll(got)
	if !checkCluster(t, got) || !same(before, after) || ok != still || !same(impl.RepairRing(got), got) {
		t.Fatalf("%s repaired: %s", shortly(c), shortly(got))
	}
	return got
}

// checkJoinRing sees that a cluster which a node joins is read as before, and that no place gets another new owner.
func checkJoinRing(t *testing.T, c impl.Cluster, n impl.RingNode) impl.Cluster {
	t.Helper()
	arg, kept := guarded(c)
	node, nodeKept := guarded(n)
	got := impl.JoinRing(arg, node)
	if want := joinRingModel(c, n); !same(got, want) || !kept() || !nodeKept() {
		t.Fatalf("JoinRing of %s, %v:\n%s\nnot %s", shortly(c), n, shortly(got), shortly(want))
	}
	checkOwn(t, got, arg, node)
	if len(got.Ring.Nodes) == 0 {
		return got
	}
	before, ok := readAll(c)
	after, still := readAll(got)
	if !checkCluster(t, got) || !same(before, after) || ok && !still {
		t.Fatalf("%s with %v: %s", shortly(c), n, shortly(got))
	}
	for _, place := range placesOf(got.Ring) {
		old := impl.OwnersOf(c.Ring, place)
		for _, id := range impl.OwnersOf(got.Ring, place) {
			if id != n.Id && !slices.Contains(old, id) {
				t.Fatalf("%s with %v: %s is a new owner of %d", shortly(c), n, id, place)
			}
		}
	}
	return got
}

// checkDedup sees that each sample is one of both lists, at rising times.
func checkDedup(t *testing.T, a []impl.Sample, b []impl.Sample, gap int) []impl.Sample {
	t.Helper()
	x, xKept := guarded(a)
	y, yKept := guarded(b)
	got := impl.DedupSamples(x, y, gap)
	var want []impl.Sample
	if goodSamplesModel(a) && goodSamplesModel(b) && gap >= 0 && gap <= maxGap {
		want = dedupModel(a, b, gap)
	}
	if len(want) > 2000 {
		want = nil
	}
	if !slices.Equal(got, want) || !xKept() || !yKept() {
		t.Fatalf("DedupSamples of %s, %s, %d:\n%s\nnot %s", shortly(a), shortly(b), gap, shortly(got), shortly(want))
	}
	checkOwn(t, got, x, y)
	has := map[impl.Sample]bool{}
	for _, s := range slices.Concat(a, b) {
		has[s] = true
	}
	for i, s := range got {
		if !has[s] || i > 0 && got[i-1].Time >= s.Time {
			t.Fatalf("DedupSamples of %v, %v, %d: %v", a, b, gap, got)
		}
	}
	return got
}

func checkDedupSeries(t *testing.T, l []impl.Series, name string, gap int) []impl.Series {
	t.Helper()
	arg, kept := guarded(l)
	got := impl.DedupSeries(arg, name, gap)
	if want := dedupSeriesModel(l, name, gap); !same(got, want) || !kept() {
		t.Fatalf("DedupSeries of %s, %q, %d:\n%s\nnot %s", shortly(l), name, gap, shortly(got), shortly(want))
	}
	checkOwn(t, got, arg)
	return got
}

func nodeOf(id string, state int, tokens ...int) impl.RingNode {
	return impl.RingNode{Id: id, State: state, Tokens: tokens}
}

// plainRing has n nodes that are up, n0 and so on, with a token each.
func plainRing(copies int, n int) impl.Ring {
	r := impl.Ring{Copies: copies}
	for i := range n {
		r.Nodes = append(r.Nodes, nodeOf(fmt.Sprintf("n%02d", i), impl.NodeUp, 1000*i+5))
	}
	return r
}

// clusterOf has these lists of series on a ring.
func clusterOf(r impl.Ring, data ...[]impl.Series) impl.Cluster {
	return impl.Cluster{Ring: r, Data: append(data, make([][]impl.Series, len(r.Nodes)-len(data))...)}
}

// ringToken is one near a place of labels that tests use, at an end, near another one or anywhere.
func ringToken(r *rand.Rand, last int) int {
	near := 0
	switch r.Intn(8) {
	case 0:
		return r.Intn(ringSize)
	case 1:
		near = []int{0, ringSize - 1}[r.Intn(2)]
	case 2, 3:
		near = last
	default:
		near = placeModel(fewLabels(r))
	}
	return min(ringSize-1, max(0, near+r.Intn(5)-2))
}

// someTokens are tokens that no one has yet, rising.
func someTokens(r *rand.Rand, n int, seen map[int]bool) []int {
	var out []int
	last := 0
	for range n {
		if token := ringToken(r, last); !seen[token] {
			seen[token], last = true, token
			out = append(out, token)
		}
	}
	slices.Sort(out)
	return out
}

func randomState(r *rand.Rand) int {
	return []int{1, 1, 1, 1, 1, 2, 2, 3}[r.Intn(8)]
}

func randomRing(r *rand.Rand) impl.Ring {
	out, seen := impl.Ring{Copies: 1 + r.Intn(5)}, map[int]bool{}
	for i := range []int{0, 1, 2, 3, 4, 5, 6, 7, 20}[r.Intn(9)] {
		if tokens := someTokens(r, []int{1, 2, 3, 16}[r.Intn(4)], seen); len(tokens) > 0 {
			out.Nodes = append(out.Nodes, nodeOf(fmt.Sprintf("n%02d", 2*i), randomState(r), tokens...))
		}
	}
	return out
}

// randomCluster has series on its nodes, also where they are not owners.
func randomCluster(r *rand.Rand) impl.Cluster {
	c := impl.Cluster{Ring: randomRing(r)}
	for range c.Ring.Nodes {
		c.Data = append(c.Data, fewHead(r).Series)
	}
	return c
}

// newNode is one that joins a ring, seldom one that can't.
func newNode(r *rand.Rand, ring impl.Ring) impl.RingNode {
	seen := map[int]bool{}
	for _, n := range ring.Nodes {
		for _, token := range n.Tokens {
			seen[token] = r.Intn(40) > 0
		}
	}
	n := nodeOf(fmt.Sprintf("n%02d", 2*r.Intn(22)-1), impl.NodeUp, someTokens(r, 1+r.Intn(16), seen)...)
	switch r.Intn(12) {
	case 0:
		n.Id = "n02"
	case 1:
		n.State = r.Intn(5)
	}
	return n
}

// withStates is a cluster some of whose nodes have another State.
func withStates(r *rand.Rand, c impl.Cluster) impl.Cluster {
	c.Ring.Nodes = slices.Clone(c.Ring.Nodes)
	for i := range c.Ring.Nodes {
		c.Ring.Nodes[i].State = randomState(r)
	}
	return c
}

// Promise 13: what a quorum took is read, whatever nodes are down or leaving, as long as the ring can be read; with its Value, or a greater one that was put there too.
func TestWhatAQuorumTookIsRead(t *testing.T) {
	r := rand.New(rand.NewSource(131))
	read, down, unread := 0, 0, 0
	for range 400 {
		c := impl.Cluster{Ring: randomRing(r)}
		c.Data = make([][]impl.Series, len(c.Ring.Nodes))
		all, acked := bookOf(impl.Head{}), []impl.Put(nil)
		for range 4 {
			puts := fewPuts(r, r.Intn(12))
			next, took := checkWrite(t, c, puts)
			for i, p := range puts {
				if took[i] > 0 {
					all.join(p)
				}
				if took[i] >= quorumModel(c.Ring.Copies) {
					acked = append(acked, p)
				}
			}
			switch r.Intn(6) {
			case 0:
				next = checkRepair(t, next)
			case 1:
				if more := checkJoinRing(t, next, newNode(r, next.Ring)); len(more.Data) > 0 {
					next = more
				}
			}
			c = withStates(r, next)
			got, ok := checkReadRing(t, c, nil, 0, maxTime)
			if !ok {
				unread++
				continue
			}
			book := bookOf(impl.Head{Series: got})
			for _, p := range acked {
				text := labelsTextModel(p.Labels)
				v, there := book.values[text][p.Time]
				if !there || v < p.Value || v > all.values[text][p.Time] {
					t.Fatalf("%s: %v was acknowledged, but %d, %v is read", shortly(c), p, v, there)
				}
				read++
			}
			if slices.ContainsFunc(c.Ring.Nodes, func(n impl.RingNode) bool { return n.State == impl.NodeDown }) {
				down++
			}
		}
	}
	if read < 2500 || down < 120 || unread < 400 {
		t.Errorf("%d puts read, %d times with nodes down, %d times not", read, down, unread)
	}
}

// Promise 13: a cluster is read by what its nodes say, and as before when it was repaired, and when a node joined it.
func TestRepairAndANewNodeChangeNothing(t *testing.T) {
	r := rand.New(rand.NewSource(132))
	repaired, joined, refused := 0, 0, 0
	for range 500 {
		c := randomCluster(r)
		checkCluster(t, c)
		checkReadRing(t, c, blockMatchers(r), r.Intn(12), r.Intn(30))
		if !same(checkRepair(t, c), c) {
			repaired++
		}
		if got := checkJoinRing(t, c, newNode(r, c.Ring)); len(got.Data) == 0 {
			refused++
		} else if slices.ContainsFunc(got.Data, func(l []impl.Series) bool { return len(l) > 0 }) {
			joined++
		}
	}
	if repaired < 200 || joined < 250 || refused < 50 {
		t.Errorf("%d repaired, %d joined, %d refused", repaired, joined, refused)
	}
}

// Promise 13: a place has as many owners as Copies, or as there are nodes, all unlike.
func TestOwnersOfPlaces(t *testing.T) {
	r := rand.New(rand.NewSource(133))
	for range 150 {
		ring := randomRing(r)
		checkRing(t, ring)
		for _, place := range append(placesOf(ring), r.Intn(ringSize)) {
			got := checkOwners(t, ring, place)
			if slices.Sort(got); len(got) != min(ring.Copies, len(ring.Nodes)) || len(slices.Compact(got)) != len(got) {
				t.Fatalf("%v, %d: %v", ring, place, got)
			}
		}
	}
}

func TestOwnersAtTokens(t *testing.T) {
	last := ringSize - 1
	three := func(copies int) impl.Ring {
		return impl.Ring{Copies: copies, Nodes: []impl.RingNode{nodeOf("a", 1, 10, 11, 12, 500), nodeOf("b", 2, 13, 100), nodeOf("c", 3, 900)}}
	}
	ends := impl.Ring{Copies: 2, Nodes: []impl.RingNode{nodeOf("a", 1, 0), nodeOf("b", 1, last)}}
	for _, x := range []struct {
		ring  impl.Ring
		place int
		want  string
	}{
		{three(1), 10, "a"}, {three(1), 9, "a"}, {three(1), 0, "a"}, {three(1), 11, "a"}, {three(1), 12, "a"}, {three(1), 13, "b"}, {three(1), 14, "b"}, {three(1), 99, "b"}, {three(1), 100, "b"}, {three(1), 101, "a"}, {three(1), 500, "a"}, {three(1), 501, "c"}, {three(1), 899, "c"}, {three(1), 900, "c"}, {three(1), 901, "a"}, {three(1), last, "a"},
		// Several tokens of a node side by side count as one.
		{three(2), 10, "a b"}, {three(2), 12, "a b"}, {three(2), 13, "b a"}, {three(2), 100, "b a"}, {three(2), 101, "a c"}, {three(2), 500, "a c"}, {three(2), 501, "c a"}, {three(2), 901, "a b"}, {three(2), last, "a b"}, {three(2), 0, "a b"},
		{three(3), 10, "a b c"}, {three(3), 100, "b a c"}, {three(3), 901, "a b c"}, {three(3), 501, "c a b"},
		// Fewer nodes than copies.
		{three(4), 101, "a c b"}, {three(5), 501, "c a b"}, {impl.Ring{Copies: 5}, 7, ""}, {impl.Ring{Copies: 1}, 0, ""}, {impl.Ring{Copies: 3, Nodes: []impl.RingNode{nodeOf("a", 2, 7)}}, 8, "a"},
		{ends, 0, "a b"}, {ends, 1, "b a"}, {ends, last, "b a"}, {ends, last - 1, "b a"},
		// Places that are none, and a ring that is none.
		{three(2), -1, ""}, {three(2), ringSize, ""}, {three(2), ringSize + 10, ""}, {three(2), math.MinInt, ""}, {three(2), math.MaxInt, ""}, {three(0), 10, ""}, {three(6), 10, ""},
	} {
		if got := strings.Join(checkOwners(t, x.ring, x.place), " "); got != x.want {
			t.Errorf("copies %d, %d: %q, not %q", x.ring.Copies, x.place, got, x.want)
		}
	}
	// The greatest ring there can be.
	big := impl.Ring{Copies: 5}
	for i := range 20 {
		big.Nodes = append(big.Nodes, nodeOf(fmt.Sprintf("n%02d", i), 1, upFrom(16, 7*i, 1<<27)...))
	}
	if got := strings.Join(checkOwners(t, big, 1<<27), " "); !checkRing(t, big) || got != "n00 n01 n02 n03 n04" {
		t.Errorf("%s", got)
	}
	if got := strings.Join(checkOwners(t, big, 1<<27-1+7*18), " "); got != "n18 n19 n00 n01 n02" {
		t.Errorf("%s", got)
	}
}

func TestRingsThatAreGood(t *testing.T) {
	base := func() impl.Ring {
		return impl.Ring{Copies: 2, Nodes: []impl.RingNode{nodeOf("a", 1, 10, 20), nodeOf("b", 2, 5, 30), nodeOf("c", 3, 15)}}
	}
	for name, x := range map[string]struct {
		change func(r *impl.Ring)
		good   bool
	}{
		"as it is": {func(r *impl.Ring) {}, true}, "no nodes": {func(r *impl.Ring) { r.Nodes = nil }, true},
		"one copy": {func(r *impl.Ring) { r.Copies = 1 }, true}, "five copies": {func(r *impl.Ring) { r.Copies = 5 }, true}, "no copies": {func(r *impl.Ring) { r.Copies = 0 }, false}, "six copies": {func(r *impl.Ring) { r.Copies = 6 }, false}, "copies below 0": {func(r *impl.Ring) { r.Copies = -1 }, false}, "no end of copies": {func(r *impl.Ring) { r.Copies = math.MaxInt }, false}, "copies from the other end": {func(r *impl.Ring) { r.Copies = math.MinInt }, false},
		"20 nodes": {func(r *impl.Ring) { *r = plainRing(2, 20) }, true}, "21 nodes": {func(r *impl.Ring) { *r = plainRing(2, 21) }, false}, "very many nodes": {func(r *impl.Ring) { r.Nodes = make([]impl.RingNode, 1<<12) }, false},
		"an Id twice": {func(r *impl.Ring) { r.Nodes[1].Id = "a" }, false}, "Ids that fall": {func(r *impl.Ring) { r.Nodes[2].Id = "aa" }, false}, "an Id twice, apart": {func(r *impl.Ring) { r.Nodes[2].Id = "a" }, false},
		"an empty Id": {func(r *impl.Ring) { r.Nodes[0].Id = "" }, false}, "an Id with a digit ahead": {func(r *impl.Ring) { r.Nodes[0].Id = "1" }, false}, "an Id with a sign": {func(r *impl.Ring) { r.Nodes[2].Id = "c-" }, false}, "an Id of 40 bytes": {func(r *impl.Ring) { r.Nodes[2].Id = strings.Repeat("z", 40) }, true}, "an Id of 41 bytes": {func(r *impl.Ring) { r.Nodes[2].Id = strings.Repeat("z", 41) }, false}, "Ids by bytes": {func(r *impl.Ring) { r.Nodes[0].Id, r.Nodes[1].Id, r.Nodes[2].Id = "B", "_", "a" }, true},
		"State 0": {func(r *impl.Ring) { r.Nodes[0].State = 0 }, false}, "State 4": {func(r *impl.Ring) { r.Nodes[1].State = 4 }, false}, "State -1": {func(r *impl.Ring) { r.Nodes[2].State = -1 }, false}, "all down": {func(r *impl.Ring) { r.Nodes[0].State, r.Nodes[2].State = 2, 2 }, true},
		"no tokens": {func(r *impl.Ring) { r.Nodes[1].Tokens = nil }, false}, "16 tokens": {func(r *impl.Ring) { r.Nodes[1].Tokens = upFrom(16, 100, 1) }, true}, "17 tokens": {func(r *impl.Ring) { r.Nodes[1].Tokens = upFrom(17, 100, 1) }, false}, "very many tokens": {func(r *impl.Ring) { r.Nodes[2].Tokens = make([]int, 1<<12) }, false},
		"tokens that fall": {func(r *impl.Ring) { r.Nodes[0].Tokens = []int{20, 10} }, false}, "tokens that fall in the end": {func(r *impl.Ring) { r.Nodes[0].Tokens = []int{10, 20, 19} }, false}, "a token twice in a node": {func(r *impl.Ring) { r.Nodes[0].Tokens = []int{10, 10} }, false},
		"a token twice in two": {func(r *impl.Ring) { r.Nodes[2].Tokens = []int{30} }, false}, "a first token twice": {func(r *impl.Ring) { r.Nodes[1].Tokens = []int{10} }, false}, "a token twice, among others": {func(r *impl.Ring) { r.Nodes[2].Tokens = []int{1, 2, 20, 99} }, false},
		"the least token": {func(r *impl.Ring) { r.Nodes[1].Tokens[0] = 0 }, true}, "a token below 0": {func(r *impl.Ring) { r.Nodes[1].Tokens[0] = -1 }, false}, "a token far below 0": {func(r *impl.Ring) { r.Nodes[0].Tokens[0] = math.MinInt }, false}, "the greatest token": {func(r *impl.Ring) { r.Nodes[1].Tokens[1] = ringSize - 1 }, true}, "a token too great": {func(r *impl.Ring) { r.Nodes[1].Tokens[1] = ringSize }, false}, "a token far too great": {func(r *impl.Ring) { r.Nodes[2].Tokens[0] = math.MaxInt }, false}, "a token that is one modulo the ring": {func(r *impl.Ring) { r.Nodes[0].Tokens[1] = ringSize + 15 }, false},
	} {
		r := base()
		x.change(&r)
		if got := checkRing(t, r); got != x.good {
			t.Errorf("%s: %v", name, got)
		}
		c := impl.Cluster{Ring: r}
		if len(r.Nodes) < 100 {
			c = clusterOf(r)
		}
		if checkCluster(t, c) != x.good {
			t.Errorf("%s: the cluster", name)
		}
		if !x.good {
			zeroCluster(t, c)
			checkOwners(t, r, 10)
		}
	}
}

// zeroCluster asks all functions of a cluster that is not good.
func zeroCluster(t *testing.T, c impl.Cluster) {
	t.Helper()
	if checkCluster(t, c) {
		t.Fatalf("%s is good", shortly(c))
	}
	if got, took := checkWrite(t, c, ats("up", 1, 2)); len(took) > 0 || !same(got, impl.Cluster{}) {
		t.Errorf("%s is written into: %s", shortly(c), shortly(got))
	}
	if got, ok := checkReadRing(t, c, nil, 0, maxTime); ok || len(got) > 0 {
		t.Errorf("%s is read: %s", shortly(c), shortly(got))
	}
	if got := checkRepair(t, c); !same(got, impl.Cluster{}) {
		t.Errorf("%s is repaired: %s", shortly(c), shortly(got))
	}
	if got := checkJoinRing(t, c, nodeOf("zz", 1, 77)); !same(got, impl.Cluster{}) {
		t.Errorf("%s is joined: %s", shortly(c), shortly(got))
	}
}

func TestClustersThatAreGood(t *testing.T) {
	good := clusterOf(plainRing(2, 3), manySeries(200), nil, manySeries(3))
	if !checkCluster(t, good) || !checkCluster(t, impl.Cluster{Ring: impl.Ring{Copies: 1}}) {
		t.Error("good ones are not")
	}
	zeroCluster(t, impl.Cluster{})
	zeroCluster(t, impl.Cluster{Ring: good.Ring})
	zeroCluster(t, impl.Cluster{Ring: good.Ring, Data: good.Data[:2]})
	zeroCluster(t, impl.Cluster{Ring: good.Ring, Data: append(slices.Clone(good.Data), nil)})
	zeroCluster(t, impl.Cluster{Ring: impl.Ring{Copies: 1}, Data: [][]impl.Series{nil}})
	zeroCluster(t, impl.Cluster{Ring: good.Ring, Data: make([][]impl.Series, 1<<12)})
	for _, l := range badSeries() {
		if len(l) > 5000 || len(l) > 0 && len(l[0].Samples) > 5000 {
			continue // what is very great is asked for by GoodSeries' own test
		}
		zeroCluster(t, clusterOf(plainRing(2, 3), [][]impl.Series{l, nil, good.Data[2]}...))
		zeroCluster(t, clusterOf(plainRing(1, 3), [][]impl.Series{good.Data[2], nil, l}...))
	}
}

func TestPlacesOfLabels(t *testing.T) {
	for _, l := range slices.Concat(badLabels(), alikeLabels(), [][]impl.Label{nil, {}, labelsOf("a", "b"), labelsOf("_name", "up"), labelsOf("_name", "up", "job", `a"b\`), manyLabels(20)}) {
		arg, kept := guarded(l)
		if got := impl.PlaceOf(arg); got != placeModel(l) || !isPlaceModel(got) || !kept() {
			t.Errorf("%v: %d, not %d", l, got, placeModel(l))
		}
	}
	if impl.PlaceOf(labelsOf("_name", "up")) == 0 || impl.PlaceOf(nil) == 0 || impl.PlaceOf(labelsOf("9", "up")) != 0 {
		t.Error("labels that are good, and some that are not")
	}
}

// ownedBy makes a ring of nodes a, b, c and so on that own the place of labels in this order; nodes that are no owners are behind it.
func ownedBy(l []impl.Label, copies int, states ...int) impl.Ring {
	r := impl.Ring{Copies: copies}
	for i, state := range states {
		r.Nodes = append(r.Nodes, nodeOf(string(rune('a'+i)), state, (placeModel(l)+i)%ringSize))
	}
	return r
}

func TestWritesToOwners(t *testing.T) {
	up := labelsOf("_name", "up")
	put := func(time int, value int) impl.Put { return impl.Put{Labels: up, Time: time, Value: value} }
	for _, x := range []struct {
		copies int
		states []int
		took   int
		who    string
	}{
		{3, []int{1, 1, 1, 1}, 3, "abc"}, {3, []int{2, 1, 1, 1}, 2, "bc"}, {3, []int{3, 1, 1, 1}, 2, "bc"}, {3, []int{2, 3, 1, 1}, 1, "c"}, {3, []int{2, 3, 2, 1}, 0, ""}, {3, []int{1, 2}, 1, "a"}, {1, []int{1, 1}, 1, "a"}, {1, []int{2, 1}, 0, ""}, {1, []int{3, 1}, 0, ""}, {5, []int{1, 1, 1, 1, 1, 1}, 5, "abcde"}, {5, []int{1, 3, 1}, 2, "ac"}, {2, nil, 0, ""},
	} {
		got, took := checkWrite(t, clusterOf(ownedBy(up, x.copies, x.states...)), []impl.Put{put(5, 7)})
		who := ""
		for i, l := range got.Data {
			if len(l) > 0 {
				who += got.Ring.Nodes[i].Id
			}
		}
		if took[0] != x.took || who != x.who {
			t.Errorf("%d copies, states %v: %v by %q", x.copies, x.states, took, who)
		}
	}
	// A put is joined: the greatest Value counts, and whatever comes is taken.
	c := clusterOf(ownedBy(up, 2, 1, 1, 1))
	c, took := checkWrite(t, c, []impl.Put{put(5, 7), put(5, 6), put(5, 7), put(5, 9), put(5, -9), put(4, math.MinInt), put(6, math.MaxInt), put(6, math.MinInt), put(0, 1), put(maxTime, 1)})
	want := []impl.Sample{{Time: 0, Value: 1}, {Time: 4, Value: math.MinInt}, {Time: 5, Value: 9}, {Time: 6, Value: math.MaxInt}, {Time: maxTime, Value: 1}}
	if slices.Min(took) != 2 || !slices.Equal(c.Data[0][0].Samples, want) || !slices.Equal(c.Data[1][0].Samples, want) || len(c.Data[2]) > 0 {
		t.Errorf("%v, %v", c.Data, took)
	}
	// Nodes that have unlike Values already.
	c.Data = [][]impl.Series{{series("up", impl.Sample{Time: 5, Value: 3})}, {series("up", impl.Sample{Time: 5, Value: 8})}, nil}
	c, _ = checkWrite(t, c, []impl.Put{put(5, 7)})
	if c.Data[0][0].Samples[0].Value != 7 || c.Data[1][0].Samples[0].Value != 8 {
		t.Errorf("%v", c.Data)
	}
	// Puts that are none are taken by nobody, and change nothing for those beside them.
	puts := []impl.Put{put(-1, 1), put(maxTime+1, 1), put(math.MinInt, 1), put(math.MaxInt, 1), {Labels: nil, Time: 5}, {Labels: labelsOf("job", "a"), Time: 5}}
	for _, l := range badLabels() {
		puts = append(puts, impl.Put{Labels: append(labelsOf("_name", "a"), l...), Time: 5})
	}
	puts = append(puts, put(8, 8))
	next, took := checkWrite(t, c, puts)
	if took[len(took)-1] != 2 || slices.Max(took[:len(took)-1]) != 0 || len(next.Data[0]) != 1 || len(next.Data[0][0].Samples) != 2 {
		t.Errorf("%v, %v", next.Data, took)
	}
}

func TestWritesInNumbers(t *testing.T) {
	up := labelsOf("_name", "up")
	c := clusterOf(ownedBy(up, 2, 1, 1, 1), manySeries(3))
	for _, none := range [][]impl.Put{nil, {}} {
		if got, took := checkWrite(t, c, none); len(took) > 0 || !same(got, c) {
			t.Errorf("no puts: %v, %v", got, took)
		}
	}
	for _, n := range []int{499, 500, 501, 1 << 12} {
		got, took := checkWrite(t, c, ats("up", upFrom(n, 0, 1)...))
		if n <= 500 && (len(took) != n || slices.Min(took) != 2) || n > 500 && (len(took) > 0 || len(got.Data) > 0) {
			t.Errorf("%d puts: %d", n, len(took))
		}
	}
	if got, took := checkWrite(t, impl.Cluster{Ring: impl.Ring{Copies: 1}}, ats("up", 1, 2)); !slices.Equal(took, []int{0, 0}) || len(got.Data) > 0 || got.Ring.Copies != 1 {
		t.Errorf("no nodes: %v, %v", got, took)
	}
	// Labels whose hashes are alike are series of their own.
	var puts []impl.Put
	for i, l := range alikeLabels() {
		puts = append(puts, impl.Put{Labels: l, Time: 3, Value: i}, impl.Put{Labels: l, Time: 4, Value: -i})
	}
	got, took := checkWrite(t, clusterOf(ownedBy(puts[0].Labels, 2, 1, 1, 1)), puts)
	if len(got.Data[0]) != 4 || len(got.Data[1]) != 4 || slices.Min(took) != 2 {
		t.Errorf("%v, %v", got.Data, took)
	}
}

// A node whose list would not be good any more leaves a put, while others take it.
func TestWritesToFullNodes(t *testing.T) {
	up := labelsOf("_name", "up")
	full := func(n int) []impl.Series { return []impl.Series{series("up", steadySamples(n, 10, 1, 7)...)} }
	for _, n := range []int{1998, 1999, 2000} {
		c := clusterOf(ownedBy(up, 2, 1, 1, 1), full(n))
		got, took := checkWrite(t, c, []impl.Put{at("up", 5000), {Labels: up, Time: 10, Value: 9}, at("up", 6000), at("up", 0), at("up", 5000), {Labels: up, Time: 11, Value: 6}})
		room := 2000 - n
		for i, want := range []bool{room > 0, true, room > 1, false, room > 0, true} {
			if took[i] == 2 != want || took[i] < 1 {
				t.Errorf("%d samples: put %d: %v", n, i, took)
			}
		}
		if len(got.Data[0][0].Samples) != 2000 || got.Data[0][0].Samples[0].Value != 9 || len(got.Data[1][0].Samples) != 5 {
			t.Errorf("%d samples: %s", n, shortly(got.Data))
		}
	}
	for _, n := range []int{198, 199, 200} {
		c := clusterOf(ownedBy(up, 3, 1, 1, 1), manySeries(n))
		got, took := checkWrite(t, c, []impl.Put{at("up", 5), at("down", 5), at("up", 6), at("s1000", 7), at("s1000", 0)})
		room := 200 - n
		for i, want := range []bool{room > 0, room > 1, room > 0, true, true} {
			if took[i] == 3 != want || took[i] < 2 {
				t.Errorf("%d series: put %d: %v", n, i, took)
			}
		}
		if len(got.Data[0]) != 200 || len(got.Data[1]) != 3 {
			t.Errorf("%d series: %s", n, shortly(got.Data))
		}
	}
}

// Each number of nodes that are down or leaving, for each number of copies and of nodes.
func TestRingsThatCanBeRead(t *testing.T) {
	for copies := 1; copies <= 5; copies++ {
		for n := 0; n <= 8; n++ {
			for down := 0; down <= n; down++ {
				r := plainRing(copies, n)
				for i := range down {
					r.Nodes[i].State = impl.NodeDown
				}
				for i := down; i < n; i += 2 {
					r.Nodes[i].State = impl.NodeLeaving
				}
				// Those that are down stand side by side, so that a place has as many of them as can be.
				want := min(copies, n)-min(copies, down) >= leastModel(copies)
				checkRing(t, r)
				if got := impl.CanRead(r); got != want {
					t.Errorf("%d copies, %d nodes, %d down: %v", copies, n, down, got)
				}
			}
		}
	}
	for name, x := range map[string]struct {
		r    impl.Ring
		want bool
	}{
		"one down beside itself":        {impl.Ring{Copies: 2, Nodes: []impl.RingNode{nodeOf("a", 2, 1, 2, 3), nodeOf("b", 1, 4), nodeOf("c", 1, 5)}}, true},
		"two down side by side":         {impl.Ring{Copies: 2, Nodes: []impl.RingNode{nodeOf("a", 2, 1), nodeOf("b", 2, 2), nodeOf("c", 1, 3), nodeOf("d", 1, 4)}}, false},
		"two down, apart":               {impl.Ring{Copies: 2, Nodes: []impl.RingNode{nodeOf("a", 2, 1), nodeOf("b", 2, 3), nodeOf("c", 1, 2), nodeOf("d", 1, 4)}}, true},
		"two down over the end":         {impl.Ring{Copies: 2, Nodes: []impl.RingNode{nodeOf("a", 2, 1), nodeOf("b", 2, 9), nodeOf("c", 1, 2), nodeOf("d", 1, 4)}}, false},
		"side by side at one token":     {impl.Ring{Copies: 2, Nodes: []impl.RingNode{nodeOf("a", 2, 1, 10), nodeOf("b", 2, 3, 11), nodeOf("c", 1, 2, 12), nodeOf("d", 1, 4, 13)}}, false},
		"between one that is down":      {impl.Ring{Copies: 2, Nodes: []impl.RingNode{nodeOf("a", 2, 1, 3), nodeOf("b", 2, 5), nodeOf("c", 1, 2, 4), nodeOf("d", 1, 6)}}, true},
		"no nodes":                      {impl.Ring{Copies: 1}, false},
		"one of three copies":           {impl.Ring{Copies: 3, Nodes: []impl.RingNode{nodeOf("a", 1, 1)}}, false},
		"two of three copies":           {impl.Ring{Copies: 3, Nodes: []impl.RingNode{nodeOf("a", 1, 1), nodeOf("b", 3, 2)}}, true},
		"all leaving":                   {impl.Ring{Copies: 3, Nodes: []impl.RingNode{nodeOf("a", 3, 1), nodeOf("b", 3, 2), nodeOf("c", 3, 3)}}, true},
		"a ring that is none, all up":   {impl.Ring{Copies: 0, Nodes: []impl.RingNode{nodeOf("a", 1, 1)}}, false},
		"a node without tokens, all up": {impl.Ring{Copies: 1, Nodes: []impl.RingNode{nodeOf("a", 1, 1), nodeOf("b", 1)}}, false},
	} {
		checkRing(t, x.r)
		if got := impl.CanRead(x.r); got != x.want {
			t.Errorf("%s: %v", name, got)
		}
	}
}

func TestReadsOfUnlikeValues(t *testing.T) {
	up := labelsOf("_name", "up")
	with := func(value int) []impl.Series { return []impl.Series{series("up", impl.Sample{Time: 5, Value: value})} }
	for _, x := range []struct {
		states []int
		values []int
		want   int
		ok     bool
	}{
		{[]int{1, 1, 1}, []int{1, 2, 3}, 3, true}, {[]int{1, 1, 1}, []int{3, 2, 1}, 3, true}, {[]int{1, 1, 1}, []int{1, 3, 2}, 3, true}, {[]int{2, 1, 1}, []int{3, 2, 1}, 2, true}, {[]int{3, 1, 1}, []int{3, 2, 1}, 3, true}, {[]int{1, 1, 2}, []int{-5, -7, 3}, -5, true}, {[]int{2, 2, 1}, []int{9, 9, 1}, 1, false}, {[]int{1, 1, 1}, []int{math.MinInt, -1, math.MaxInt}, math.MaxInt, true}, {[]int{1, 1, 1}, []int{4, 4, 4}, 4, true}, {[]int{1, 1, 1}, []int{math.MinInt, math.MinInt, math.MinInt}, math.MinInt, true},
	} {
		c := clusterOf(ownedBy(up, 3, x.states...), with(x.values[0]), with(x.values[1]), with(x.values[2]))
		// What the nodes that can be asked have is told, also where the ring can't be read.
		got, ok := checkReadRing(t, c, nil, 0, 10)
		if len(got) != 1 || !slices.Equal(got[0].Samples, []impl.Sample{{Time: 5, Value: x.want}}) || ok != x.ok {
			t.Errorf("states %v, %v: %v, %v", x.states, x.values, got, ok)
		}
		mended := checkRepair(t, c)
		for i, state := range x.states {
			want := x.values[i]
			if state == impl.NodeUp {
				want = x.want
			}
			if v := mended.Data[i][0].Samples[0].Value; v != want {
				t.Errorf("states %v, %v: node %d has %d", x.states, x.values, i, v)
			}
		}
		// With a token ahead of all others the new node is an owner.
		joined := checkJoinRing(t, c, nodeOf("ab", impl.NodeUp, (placeModel(up)+ringSize-1)%ringSize))
		if len(joined.Data) != 4 || len(joined.Data[1]) > 0 {
			t.Errorf("no owner: %v", joined.Data)
		}
		moved := c
		moved.Ring = ownedBy(up, 3, x.states...)
		for i := range moved.Ring.Nodes {
			moved.Ring.Nodes[i].Tokens[0] += 10
		}
		joined = checkJoinRing(t, moved, nodeOf("ab", impl.NodeUp, placeModel(up)))
		if len(joined.Data) != 4 || len(joined.Data[1]) != 1 || joined.Data[1][0].Samples[0].Value != x.want {
			t.Errorf("states %v, %v: the new one has %v", x.states, x.values, joined.Data)
		}
	}
}

func TestReadsBySpansAndMatchers(t *testing.T) {
	up := labelsOf("_name", "up")
	a := []impl.Series{series("down", impl.Sample{Time: 3, Value: 1}), series("up", impl.Sample{Time: 1, Value: 1}, impl.Sample{Time: 9, Value: 1})}
	b := []impl.Series{series("up", impl.Sample{Time: 5, Value: 2}, impl.Sample{Time: 9, Value: 0}), series("zone", impl.Sample{Time: 9, Value: 4})}
	c := clusterOf(ownedBy(up, 2, 1, 1, 2), a, b, []impl.Series{series("lost", impl.Sample{Time: 3, Value: 1})})
	for _, x := range []struct {
		m        []impl.Matcher
		from, to int
		want     string
	}{
		{nil, 0, maxTime, "down[3] up[1 5 9] zone[9]"}, {nil, math.MinInt, math.MaxInt, "down[3] up[1 5 9] zone[9]"}, {nil, 5, 9, "up[5 9] zone[9]"}, {nil, 5, 8, "up[5]"}, {nil, 2, 4, "down[3]"}, {nil, 4, 4, ""}, {nil, 9, 1, ""}, {nil, math.MaxInt, math.MinInt, ""}, {exactly(up), 0, 10, "up[1 5 9]"}, {exactly(labelsOf("_name", "lost")), 0, 10, ""}, {[]impl.Matcher{{Name: "_name", Op: impl.MatchUnlike, Value: "u*"}}, 0, 10, "down[3] zone[9]"},
	} {
		var got []string
		l, ok := checkReadRing(t, c, x.m, x.from, x.to)
		for _, s := range l {
			got = append(got, s.Labels[0].Value+fmt.Sprint(timesOf(s.Samples)))
		}
		if strings.Join(got, " ") != x.want || !ok {
			t.Errorf("%v, %d..%d: %v", x.m, x.from, x.to, got)
		}
	}
	for i, m := range badMatchers() {
		if got, ok := checkReadRing(t, c, m, 0, maxTime); ok || len(got) > 0 {
			t.Errorf("bad matchers %d: %v, %v", i, got, ok)
		}
	}
	if got, ok := checkReadRing(t, c, slices.Repeat(exactly(up), 10), 0, maxTime); !ok || len(got) != 1 {
		t.Errorf("as many matchers as can be: %v", got)
	}
}

// halvesOf deals n series out to two nodes.
func halvesOf(n int) [][]impl.Series {
	out := make([][]impl.Series, 2)
	for i, s := range manySeries(n) {
		out[i%2] = append(out[i%2], s)
	}
	return out
}

// Series and samples that are, on all nodes together, as many as a good list has, or one more.
func TestReadsAtTheirLimits(t *testing.T) {
	for _, n := range []int{199, 200, 201, 400} {
		c := clusterOf(plainRing(2, 3), halvesOf(n)...)
		got, ok := checkReadRing(t, c, nil, 0, maxTime)
		if n <= 200 && (len(got) != n || !ok) || n > 200 && (len(got) > 0 || ok) {
			t.Errorf("%d series: %d, %v", n, len(got), ok)
		}
		// What does not fit, or lies in no span, does not count.
		if got, ok := checkReadRing(t, c, nil, 1, 200); len(got) != min(n-1, 200) || !ok {
			t.Errorf("%d series, 200 times: %d, %v", n, len(got), ok)
		}
		c.Ring.Nodes[0].State = impl.NodeDown
		if got, ok := checkReadRing(t, c, nil, 0, maxTime); len(got) != n/2 || !ok {
			t.Errorf("%d series, one node down: %d, %v", n, len(got), ok)
		}
	}
	for _, n := range []int{999, 1000, 1001} {
		one, two := []impl.Series{series("up", steadySamples(1000, 0, 2, 7)...)}, []impl.Series{series("up", steadySamples(n, 1, 2, 8)...)}
		got, ok := checkReadRing(t, clusterOf(plainRing(1, 2), one, two), nil, 0, maxTime)
		if n <= 1000 && (len(got) != 1 || len(got[0].Samples) != 1000+n || !ok) || n > 1000 && (len(got) > 0 || ok) {
			t.Errorf("1000 samples and %d: %s, %v", n, shortly(got), ok)
		}
		if got, ok := checkReadRing(t, clusterOf(plainRing(1, 2), one, two), nil, 1, maxTime); len(got) != 1 || len(got[0].Samples) != 999+n || !ok {
			t.Errorf("1000 samples and %d without the first: %s, %v", n, shortly(got), ok)
		}
	}
}

// A node whose list would be no good list is left as it was, and others are repaired.
func TestRepairsAtTheirLimits(t *testing.T) {
	up := labelsOf("_name", "up")
	for _, n := range []int{199, 200} {
		// All own all: the first one has one series and hears of n others, the last one hears of all.
		c := clusterOf(ownedBy(up, 3, 1, 1, 3), []impl.Series{series("a", impl.Sample{Time: 1, Value: 1})}, nil, manySeries(n))
		got := checkRepair(t, c)
		if n == 199 && (len(got.Data[0]) != 200 || len(got.Data[1]) != 200) || n == 200 && (len(got.Data[0]) != 1 || len(got.Data[1]) > 0) || len(got.Data[2]) != n {
			t.Errorf("%d series: %d, %d, %d", n, len(got.Data[0]), len(got.Data[1]), len(got.Data[2]))
		}
	}
	for _, n := range []int{1999, 2000} {
		one := []impl.Series{series("up", impl.Sample{Time: 0, Value: 1})}
		c := clusterOf(ownedBy(up, 2, 1, 1, 1, 1), one, nil, nil, []impl.Series{series("up", steadySamples(n, 1, 1, 7)...)})
		got := checkRepair(t, c)
		if n == 1999 && (len(got.Data[0][0].Samples) != 2000 || len(got.Data[1]) != 1) || n == 2000 && (len(got.Data[0][0].Samples) != 1 || len(got.Data[1]) > 0) || len(got.Data[2]) > 0 || len(got.Data[3][0].Samples) != n {
			t.Errorf("%d samples: %s", n, shortly(got.Data))
		}
	}
	// One owner's list would be no good list, another one's is; of all else the first and the last one are owners.
	c := clusterOf(ownedBy(up, 2, 1, 1, 1), manySeries(200), nil, []impl.Series{series("up", impl.Sample{Time: 4, Value: 4})})
	c.Ring.Nodes[2].Tokens[0] = placeModel(up) - 1
	got := checkRepair(t, c)
	if !same(got.Data, [][]impl.Series{c.Data[0], c.Data[2], c.Data[2]}) {
		t.Errorf("%d, %d, %d", len(got.Data[0]), len(got.Data[1]), len(got.Data[2]))
	}
}

func TestRepairs(t *testing.T) {
	up := labelsOf("_name", "up")
	some := func(times ...int) []impl.Series {
		s := series("up")
		for _, time := range times {
			s.Samples = append(s.Samples, impl.Sample{Time: time, Value: time})
		}
		return []impl.Series{s}
	}
	for _, x := range []struct {
		states []int
		want   [][]int
	}{
		{[]int{1, 1, 1, 1}, [][]int{{1, 2, 3, 4}, {1, 2, 3, 4}, {3}, {4}}}, {[]int{2, 1, 1, 1}, [][]int{{1}, {2, 3, 4}, {3}, {4}}}, {[]int{1, 3, 1, 2}, [][]int{{1, 2, 3}, {2}, {3}, {4}}}, {[]int{3, 3, 1, 1}, [][]int{{1}, {2}, {3}, {4}}}, {[]int{2, 2, 2, 2}, [][]int{{1}, {2}, {3}, {4}}},
	} {
		c := checkRepair(t, clusterOf(ownedBy(up, 2, x.states...), some(1), some(2), some(3), some(4)))
		for i, want := range x.want {
			if len(c.Data[i]) != 1 || !slices.Equal(timesOf(c.Data[i][0].Samples), want) {
				t.Errorf("states %v: node %d has %v", x.states, i, c.Data[i])
			}
		}
	}
	// Without nodes, and without series.
	none := impl.Cluster{Ring: impl.Ring{Copies: 3}}
	if got := checkRepair(t, none); !same(got, none) {
		t.Errorf("%v", got)
	}
	if got := checkRepair(t, clusterOf(plainRing(2, 3))); !same(got, clusterOf(plainRing(2, 3))) {
		t.Errorf("%v", got)
	}
}

func TestNodesThatJoin(t *testing.T) {
	up := labelsOf("_name", "up")
	c := clusterOf(ownedBy(up, 2, 1, 2, 1), []impl.Series{series("up", impl.Sample{Time: 1, Value: 1})}, []impl.Series{series("up", impl.Sample{Time: 2, Value: 2})}, []impl.Series{series("up", impl.Sample{Time: 3, Value: 3})})
	for i := range c.Ring.Nodes {
		c.Ring.Nodes[i].Tokens[0] += 100
	}
	place := placeModel(up)
	for name, x := range map[string]struct {
		n  impl.RingNode
		at int
	}{
		"ahead": {nodeOf("A", 1, place), 0}, "between": {nodeOf("ab", 1, place+100-1), 1}, "behind": {nodeOf("z", 1, place-1, place, place+500), 3}, "second": {nodeOf("aa", 1, place+99, place+500), 1},
		"an Id that is there": {nodeOf("a", 1, place), -1}, "the last Id": {nodeOf("c", 1, place), -1}, "an Id that is none": {nodeOf("", 1, place), -1}, "another one": {nodeOf("a-", 1, place), -1}, "a token that is there": {nodeOf("d", 1, place, place+101), -1}, "a token of one that is down": {nodeOf("d", 1, place+101), -1}, "down": {nodeOf("d", 2, place), -1}, "leaving": {nodeOf("d", 3, place), -1}, "no state": {nodeOf("d", 0, place), -1}, "state 4": {nodeOf("d", 4, place), -1}, "no tokens": {nodeOf("d", 1), -1}, "tokens that fall": {nodeOf("d", 1, 7, 6), -1}, "a token twice": {nodeOf("d", 1, 7, 7), -1}, "a token below 0": {nodeOf("d", 1, -1), -1}, "a token too great": {nodeOf("d", 1, ringSize), -1}, "16 tokens": {nodeOf("d", 1, append(upFrom(15, 1, 1), place)...), 3}, "17 tokens": {nodeOf("d", 1, append(upFrom(16, 1, 1), place)...), -1},
	} {
		got := checkJoinRing(t, c, x.n)
		if x.at < 0 {
			if !same(got, impl.Cluster{}) {
				t.Errorf("%s: %s", name, shortly(got))
			}
			continue
		}
		// It hears of what nodes have that are not down; they keep what they have.
		if len(got.Data) != 4 || got.Ring.Nodes[x.at].Id != x.n.Id || !slices.Equal(timesOf(got.Data[x.at][0].Samples), []int{1, 3}) || !same(slices.Delete(slices.Clone(got.Data), x.at, x.at+1), c.Data) {
			t.Errorf("%s: %s", name, shortly(got))
		}
	}
	// As many nodes as can be, and one more; the first node of all.
	for _, n := range []int{18, 19, 20} {
		if got := checkJoinRing(t, clusterOf(plainRing(2, n)), nodeOf("z", 1, 7)); len(got.Data) == n+1 != (n < 20) {
			t.Errorf("%d nodes and one more: %d", n, len(got.Data))
		}
	}
	first := impl.Cluster{Ring: impl.Ring{Copies: 2}}
	if got := checkJoinRing(t, first, nodeOf("z", 1, 7)); !same(got, clusterOf(impl.Ring{Copies: 2, Nodes: []impl.RingNode{nodeOf("z", 1, 7)}})) {
		t.Errorf("%v", got)
	}
	// What would be no good list stays away from the new node.
	for _, n := range []int{199, 200, 201} {
		got := checkJoinRing(t, clusterOf(plainRing(5, 2), halvesOf(n)...), nodeOf("n001", 1, 7))
		if n <= 200 && len(got.Data[1]) != n || n > 200 && len(got.Data[1]) > 0 || len(got.Data) != 3 {
			t.Errorf("%d series: %d", n, len(got.Data[1]))
		}
	}
	for _, n := range []int{999, 1000, 1001} {
		one, two := []impl.Series{series("up", steadySamples(1000, 0, 2, 7)...)}, []impl.Series{series("up", steadySamples(n, 1, 2, 8)...)}
		got := checkJoinRing(t, clusterOf(plainRing(3, 2), one, two), nodeOf("z", 1, 7))
		if n <= 1000 && len(got.Data[2][0].Samples) != 1000+n || n > 1000 && len(got.Data[2]) > 0 {
			t.Errorf("1000 samples and %d: %s", n, shortly(got.Data[2]))
		}
	}
}

// samplesAt are samples at times, all with one Value, so that it shows whose they are.
func samplesAt(value int, times ...int) []impl.Sample {
	var out []impl.Sample
	for _, time := range times {
		out = append(out, impl.Sample{Time: time, Value: value})
	}
	return out
}

func TestDedupedSamples(t *testing.T) {
	last := maxTime
	for _, x := range []struct {
		a, b []int
		gap  int
		want string
	}{
		{nil, nil, 5, ""}, {[]int{3, 9}, nil, 0, "a3 a9"}, {nil, []int{3, 9}, 0, "b3 b9"}, {[]int{1}, []int{1}, 0, "a1"}, {[]int{1}, []int{2}, 9, "a1 b2"}, {[]int{2}, []int{1}, 9, "b1 a2"},
		// Just gap behind the last one the same list goes on, one more and the other one does.
		{[]int{0, 10}, []int{5}, 10, "a0 a10"}, {[]int{0, 10}, []int{5}, 9, "a0 b5 a10"}, {[]int{0, 10, 20}, []int{5, 15, 25}, 10, "a0 a10 a20 b25"}, {[]int{0, 10, 20}, []int{5, 15, 25}, 9, "a0 b5 a10 b15 a20 b25"}, {[]int{0, 11, 20}, []int{5, 15, 25}, 10, "a0 b5 b15 b25"}, {[]int{1, 11, 21}, []int{0, 10, 20}, 10, "b0 b10 b20 a21"},
		// It goes on, too, where the other one has nothing that is earlier.
		{[]int{0, 100}, []int{100}, 5, "a0 a100"}, {[]int{0, 100}, []int{101}, 5, "a0 a100 b101"}, {[]int{0, 100}, []int{99}, 5, "a0 b99 a100"}, {[]int{0, 100}, nil, 5, "a0 a100"}, {[]int{7, 100}, []int{7}, 5, "a7 a100"},
		// Lists that begin at one Time, and whose first ones are earlier than the other's last.
		{[]int{5, 30}, []int{5, 6, 7}, 20, "a5 b6 b7 a30"}, {[]int{5, 25}, []int{5, 6, 7}, 20, "a5 a25"}, {[]int{5, 6, 7}, []int{5, 30}, 20, "a5 a6 a7 b30"}, {[]int{0, 1, 2, 50}, []int{1, 2, 3, 4, 49}, 3, "a0 a1 a2 b3 b4 b49 a50"},
		// One list ends while the other goes on.
		{[]int{0, 2}, []int{1, 3, 5}, 9, "a0 a2 b3 b5"}, {[]int{0, 2}, []int{1, 2}, 9, "a0 a2"}, {[]int{0}, []int{1, 100, 200}, 9, "a0 b1 b100 b200"}, {[]int{10, 20}, []int{1, 2, 3}, 3, "b1 b2 b3 a10 a20"},
		// Gaps at their ends.
		{[]int{0, 1}, []int{0, 1}, 0, "a0 a1"}, {[]int{0, 2}, []int{1}, 0, "a0 b1 a2"}, {[]int{0, 2}, []int{1}, 1, "a0 b1 a2"}, {[]int{0, 2}, []int{1}, 2, "a0 a2"}, {[]int{0, maxGap}, []int{1}, maxGap, "a0 a1000000"}, {[]int{0, maxGap + 1}, []int{1}, maxGap, "a0 b1 a1000001"}, {[]int{0, last}, []int{last - 1}, maxGap, "a0 b999999999999 a1000000000000"}, {[]int{0, 10}, []int{5}, -1, ""}, {[]int{0, 10}, []int{5}, maxGap + 1, ""}, {[]int{0, 10}, []int{5}, math.MinInt, ""}, {[]int{0, 10}, []int{5}, math.MaxInt, ""},
	} {
		var got []string
		for _, s := range checkDedup(t, samplesAt(0, x.a...), samplesAt(1, x.b...), x.gap) {
			got = append(got, fmt.Sprint(string(rune('a'+s.Value)), s.Time))
		}
		if strings.Join(got, " ") != x.want {
			t.Errorf("%v, %v, %d: %v", x.a, x.b, x.gap, got)
		}
	}
	for _, l := range badSamples() {
		if len(checkDedup(t, l, samplesAt(1, 5), 7)) > 0 || len(checkDedup(t, samplesAt(1, 5), l, 7)) > 0 || len(checkDedup(t, l, nil, 7)) > 0 {
			t.Errorf("%.5v is taken", l)
		}
	}
	// As many samples as a good list has, and one more.
	for _, n := range []int{999, 1000, 1001} {
		got := checkDedup(t, steadySamples(1000, 0, 1, 7), steadySamples(n, 1000, 1, 8), 5)
		if n <= 1000 && len(got) != 1000+n || n > 1000 && len(got) > 0 {
			t.Errorf("1000 and %d samples: %d", n, len(got))
		}
	}
	if got := checkDedup(t, steadySamples(2000, 0, 2, 7), steadySamples(2000, 1, 2, 8), 2); len(got) > 0 {
		t.Errorf("%d", len(got))
	}
	if got := checkDedup(t, steadySamples(2000, 0, 2, 7), steadySamples(1999, 1, 2, 8), 2); len(got) != 2000 {
		t.Errorf("%d", len(got))
	}
}

// Promise 13: of two replicas' samples each one is one of theirs, at rising times; of a list and itself it is the list.
func TestDedupedReplicas(t *testing.T) {
	r := rand.New(rand.NewSource(134))
	replica := func() []impl.Sample {
		var out []impl.Sample
		for time := r.Intn(6); len(out) < 12 && r.Intn(15) > 0; time += 1 + r.Intn(4) + r.Intn(3)/2*r.Intn(30) {
			out = append(out, impl.Sample{Time: time, Value: r.Intn(3)})
		}
		return out
	}
	switched := 0
	for range 4000 {
		a, b, gap := replica(), replica(), r.Intn(16)
		got := checkDedup(t, a, b, gap)
		if !slices.Equal(got, a) && !slices.Equal(got, b) {
			switched++
		}
		if !slices.Equal(checkDedup(t, a, a, gap), a) || !slices.Equal(checkDedup(t, a, nil, gap), a) || !slices.Equal(checkDedup(t, nil, a, gap), a) {
			t.Fatalf("%v and itself, %d", a, gap)
		}
	}
	for range 100 {
		checkDedup(t, randomSamples(r, r.Intn(200)), randomSamples(r, r.Intn(200)), r.Intn(1<<r.Intn(20)))
	}
	if switched < 2000 {
		t.Errorf("just %d are of both", switched)
	}
}

func replicaOf(name string, replica string, samples ...impl.Sample) impl.Series {
	s := impl.Series{Labels: labelsOf("_name", name), Samples: samples}
	if replica != "" {
		s.Labels = labelsOf("_name", name, "replica", replica)
	}
	return s
}

func TestDedupedSeries(t *testing.T) {
	l := []impl.Series{replicaOf("up", "", samplesAt(0, 10, 20)...), replicaOf("up", "a", samplesAt(1, 5, 15, 60)...), replicaOf("up", "b", samplesAt(2, 16, 30, 40)...), replicaOf("up", "c", samplesAt(3, 4, 61)...), replicaOf("zone", "a", samplesAt(4, 1)...)}
	slices.SortFunc(l, func(a, b impl.Series) int { return compareModel(a.Labels, b.Labels) })
	tell := func(l []impl.Series) string {
		var out []string
		for _, s := range l {
			text := labelsTextModel(s.Labels)
			for _, x := range s.Samples {
				text += fmt.Sprint(" ", x.Value, "@", x.Time)
			}
			out = append(out, text)
		}
		return strings.Join(out, "; ")
	}
	up, zone := `{_name="up"}`, `; {_name="zone"} 4@1`
	for _, x := range []struct {
		gap  int
		want string
	}{
		// 0 and 1: 1@5 1@15 0@20 1@60; that and 2: 1@5 1@15 0@20 2@30 2@40 1@60; that and 3: 3@4 and then on.
		{10, up + " 3@4 1@5 1@15 0@20 2@30 2@40 1@60 3@61" + zone},
		{0, up + " 3@4 1@5 0@10 1@15 2@16 0@20 2@30 2@40 1@60 3@61" + zone},
		{maxGap, up + " 3@4 3@61" + zone},
	} {
		if got := tell(checkDedupSeries(t, l, "replica", x.gap)); got != x.want {
			t.Errorf("gap %d: %s, not %s", x.gap, got, x.want)
		}
	}
	// A name that no series has, one that all have, and what is no name.
	if got := checkDedupSeries(t, l, "none", 10); !same(got, l) {
		t.Errorf("%v", got)
	}
	for _, name := range []string{"_name", "", "1", "a-b", strings.Repeat("a", 41), "replica "} {
		if got := checkDedupSeries(t, l, name, 10); len(got) > 0 {
			t.Errorf("%q: %v", name, got)
		}
	}
	if got := checkDedupSeries(t, l, strings.Repeat("a", 40), 10); !same(got, l) {
		t.Errorf("%v", got)
	}
	if got := checkDedupSeries(t, nil, "_name", 10); len(got) > 0 {
		t.Errorf("%v", got)
	}
	for _, gap := range []int{-1, maxGap + 1, math.MinInt, math.MaxInt} {
		if got := checkDedupSeries(t, l, "replica", gap); len(got) > 0 {
			t.Errorf("gap %d: %v", gap, got)
		}
	}
	for _, bad := range badSeries() {
		if len(bad) > 0 && len(bad) < 5000 && len(bad[0].Samples) < 5000 {
			if got := checkDedupSeries(t, bad, "replica", 10); len(got) > 0 {
				t.Errorf("%s is taken", shortly(bad))
			}
		}
	}
	// What is left of one stands ahead of another one that stood ahead of it.
	turned := []impl.Series{{Labels: labelsOf("_name", "a", "b", "1", "c", "2"), Samples: samplesAt(1, 1)}, {Labels: labelsOf("_name", "a", "b", "2", "c", "1"), Samples: samplesAt(2, 1)}}
	if got := tell(checkDedupSeries(t, turned, "b", 10)); got != `{_name="a",c="1"} 2@1; {_name="a",c="2"} 1@1` {
		t.Errorf("%s", got)
	}
	// Not all series that become one stand side by side.
	apart := []impl.Series{{Labels: labelsOf("_name", "a", "b", "1", "c", "1"), Samples: samplesAt(1, 1, 3)}, {Labels: labelsOf("_name", "a", "b", "1", "c", "2"), Samples: samplesAt(2, 1)}, {Labels: labelsOf("_name", "a", "b", "2", "c", "1"), Samples: samplesAt(3, 1, 2, 4)}}
	if got := tell(checkDedupSeries(t, apart, "b", 2)); got != `{_name="a",c="1"} 1@1 1@3 3@4; {_name="a",c="2"} 2@1` {
		t.Errorf("%s", got)
	}
}

func TestDedupedSeriesAtTheirLimits(t *testing.T) {
	// 200 series become one, or stay as they are.
	var l []impl.Series
	for i := range 200 {
		l = append(l, replicaOf("up", fmt.Sprintf("r%03d", i), samplesAt(i, i, i+1, 500+i)...))
	}
	if got := checkDedupSeries(t, l, "replica", 10); len(got) != 1 || got[0].Samples[0].Value != 0 {
		t.Errorf("%s", shortly(got))
	}
	if got := checkDedupSeries(t, l, "job", 10); !same(got, l) {
		t.Errorf("%s", shortly(got))
	}
	// Samples, met exactly and passed by one, at two and at three.
	for _, n := range []int{999, 1000, 1001} {
		two := []impl.Series{replicaOf("up", "a", steadySamples(1000, 0, 1, 7)...), replicaOf("up", "b", steadySamples(n, 1000, 1, 8)...), replicaOf("zone", "a", samplesAt(4, 1)...)}
		got := checkDedupSeries(t, two, "replica", 10)
		if n <= 1000 && (len(got) != 2 || len(got[0].Samples) != 1000+n) || n > 1000 && len(got) > 0 {
			t.Errorf("1000 and %d: %s", n, shortly(got))
		}
		three := []impl.Series{replicaOf("up", "a", steadySamples(500, 0, 1, 7)...), replicaOf("up", "b", steadySamples(500, 500, 1, 7)...), replicaOf("up", "c", steadySamples(n, 1000, 1, 8)...)}
		got = checkDedupSeries(t, three, "replica", 10)
		if n <= 1000 && (len(got) != 1 || len(got[0].Samples) != 1000+n) || n > 1000 && len(got) > 0 {
			t.Errorf("500, 500 and %d: %s", n, shortly(got))
		}
	}
	// Never a part: what is too long on the way is not left out for those behind it.
	long := []impl.Series{replicaOf("up", "a", steadySamples(1500, 0, 1, 7)...), replicaOf("up", "b", steadySamples(1500, 1500, 1, 8)...), replicaOf("up", "c", samplesAt(9, 5)...)}
	if got := checkDedupSeries(t, long, "replica", 10); len(got) > 0 {
		t.Errorf("%s", shortly(got))
	}
	// Where the last one tells it in fewer, that is what counts.
	long[2] = replicaOf("up", "c", samplesAt(9, 0, 2990)...)
	long[0].Samples[0].Time = 1
	long[0].Samples = slices.Delete(long[0].Samples, 1, 2)
	if got := checkDedupSeries(t, long, "replica", 3000); len(got) != 1 || !slices.Equal(timesOf(got[0].Samples), []int{0, 2990, 2991, 2992, 2993, 2994, 2995, 2996, 2997, 2998, 2999}) {
		t.Errorf("%s", shortly(got))
	}
}

// Promise 27: answers are new memory: what is written into one shows in no argument.
func TestAnswersOfRingsAreNew(t *testing.T) {
	r := rand.New(rand.NewSource(135))
	scribbleCluster := func(c impl.Cluster) {
		for _, l := range c.Data {
			scribbleBlock(impl.Block{Series: l})
		}
		for _, n := range c.Ring.Nodes {
			clear(n.Tokens[:cap(n.Tokens)])
		}
		clear(c.Ring.Nodes[:cap(c.Ring.Nodes)])
		clear(c.Data[:cap(c.Data)])
	}
	for range 100 {
		c, puts, n := randomCluster(r), fewPuts(r, 10), nodeOf("zz", impl.NodeUp, 7)
		was, putsWere, nWas := laid(c, 0), laid(puts, 0), laid(n, 0)
		written, took := impl.WriteRing(c, puts)
		clear(took)
		scribbleCluster(written)
		scribbleCluster(impl.RepairRing(c))
		scribbleCluster(impl.JoinRing(c, n))
		got, _ := impl.ReadRing(c, nil, 0, maxTime)
		scribbleBlock(impl.Block{Series: got})
		clear(impl.OwnersOf(c.Ring, 7))
		for _, l := range c.Data {
			scribbleBlock(impl.Block{Series: impl.DedupSeries(l, "job", 5)})
			if len(l) > 1 {
				clear(impl.DedupSamples(l[0].Samples, l[1].Samples, 5))
			}
		}
		if !same(c, was) || !same(puts, putsWere) || !same(n, nWas) {
			t.Fatal("an argument was written into")
		}
	}
}

// The greatest clusters are written, read and repaired within a blink.
func TestGreatClusters(t *testing.T) {
	big := impl.Ring{Copies: 5}
	var data [][]impl.Series
	for i := range 20 {
		big.Nodes = append(big.Nodes, nodeOf(fmt.Sprintf("n%02d", i), 1, upFrom(16, 7*i, 1<<27)...))
		var l []impl.Series
		for k := range 200 {
			l = append(l, series(fmt.Sprintf("s%02d_%03d", i, k), impl.Sample{Time: k, Value: i}))
		}
		data = append(data, l)
	}
	c := clusterOf(big, data...)
	if got, ok := impl.ReadRing(c, nil, 0, maxTime); ok || len(got) > 0 {
		t.Errorf("%d series are read", len(got))
	}
	if got, ok := impl.ReadRing(c, nil, 5, 9); !ok || len(got) != 100 {
		t.Errorf("%d series are read", len(got))
	}
	if got := impl.RepairRing(c); !same(got, c) {
		t.Error("4000 series on 5 nodes each are no good lists")
	}
	var puts []impl.Put
	for i := range 500 {
		puts = append(puts, at(fmt.Sprintf("s%02d_%03d", i%20, i), 7))
	}
	if _, took := impl.WriteRing(c, puts); len(took) != 500 || slices.Max(took) > 5 {
		t.Errorf("%v", took)
	}
}
