package tests

import (
	"fmt"
	"maps"
	"math"
	"runtime"
	"slices"
	"strconv"
	"strings"
	"testing"
	"time"

	"loop.example/g00039/impl"
)

func goodNotifyModel(c impl.NotifyConf) bool {
	good := goodRoutesModel(c.Routes) && goodSilencesModel(c.Silences) && goodInhibitsModel(c.Inhibits) && len(c.Intervals) <= 20
	for _, i := range c.Intervals {
		good = good && goodIntervalModel(i)
	}
	for _, r := range c.Routes {
		for _, n := range r.Mute {
			good = good && n < len(c.Intervals)
		}
	}
	return good
}

func goodMembersModel(c impl.NotifyConf, m impl.MemberConf) bool {
	good := goodNotifyModel(c) && isWithin(m.Members, 1, 5) && isWithin(m.Peer, 0, maxTime) && len(m.Cuts) <= 20 && len(m.Downs) <= 20
	for _, r := range c.Routes {
		good = good && (m.Members-1)*m.Peer < r.Every
	}
	for _, x := range m.Downs {
		good = good && x.B == 0
	}
	for _, x := range slices.Concat(m.Cuts, m.Downs) {
		good = good && isWithin(x.A, 0, m.Members-1) && isWithin(x.B, 0, m.Members-1) && isWithin(x.From, 0, maxTime) && isWithin(x.To, 0, maxTime)
	}
	return good
}

func goodInsModel(ins []impl.AlertIn) bool {
	good := len(ins) <= 200
	for i, x := range ins {
		good = good && isWithin(x.Time, 0, maxTime) && goodLabelsModel(x.Labels) && (i == 0 || ins[i-1].Time <= x.Time)
	}
	return good
}

func mutedModel(c impl.NotifyConf, route int, at int) bool {
	if !goodNotifyModel(c) || !isWithin(route, 0, len(c.Routes)-1) {
		return false
	}
	for _, n := range c.Routes[route].Mute {
		if inIntervalModel(c.Intervals[n], at) {
			return true
		}
	}
	return false
}

func downModel(m impl.MemberConf, member int, at int) bool {
	return slices.ContainsFunc(m.Downs, func(x impl.Cut) bool { return x.A == member && isWithin(at, x.From, x.To) })
}

func reachModel(m impl.MemberConf, a int, b int, at int) bool {
	for _, x := range m.Cuts {
		if isWithin(at, x.From, x.To) && (x.A == a && x.B == b || x.B == a && x.A == b) {
			return false
		}
	}
	return !downModel(m, a, at) && !downModel(m, b, at)
}

// groupModel is a group that there is; its flushes are all those from the first one on.
type groupModel struct {
	id     string
	route  int
	key    []impl.Label
	first  int
	alerts map[string]bool
}

type entryModel struct {
	time int
	held map[string]bool
}

// tellModel goes from time to time and asks of each member and each group whether it has a flush then. Labels go by their texts.
type tellModel struct {
	c       impl.NotifyConf
	m       impl.MemberConf
	labels  map[string][]impl.Label
	fires   map[string]bool
	groups  map[string]*groupModel
	books   []map[string]entryModel
	pairs   map[[2]string]bool
	flushes int
	told    []impl.Notice
}

func newTellModel(c impl.NotifyConf, m impl.MemberConf) *tellModel {
	x := &tellModel{c: c, m: m, labels: map[string][]impl.Label{}, fires: map[string]bool{}, groups: map[string]*groupModel{}, pairs: map[[2]string]bool{}}
	for range m.Members {
		x.books = append(x.books, map[string]entryModel{})
	}
	return x
}

func keyOf(labels []impl.Label, by []string) []impl.Label {
	return slices.DeleteFunc(slices.Clone(labels), func(x impl.Label) bool { return !slices.Contains(by, x.Name) })
}

func (x *tellModel) hear(in impl.AlertIn) {
	text := labelsTextModel(in.Labels)
	x.labels[text] = in.Labels
	if in.Ends {
		delete(x.fires, text)
		return
	}
	if x.fires[text] {
		return
	}
	x.fires[text] = true
	for _, n := range takersModel(x.c.Routes, in.Labels) {
		key := keyOf(in.Labels, x.c.Routes[n].By)
		id := fmt.Sprint(n, " ", labelsTextModel(key))
		if x.groups[id] == nil {
			x.groups[id] = &groupModel{id, n, key, in.Time + x.c.Routes[n].Wait, map[string]bool{}}
		}
		x.groups[id].alerts[text] = true
	}
}

func (x *tellModel) silenced(labels []impl.Label, at int) bool {
	return slices.ContainsFunc(x.c.Silences, func(s impl.Silence) bool { return isWithin(at, s.From, s.To) && allFitModel(s.Match, labels) })
}

// inhibits keeps what it has asked, as there are many pairs.
func (x *tellModel) inhibits(fires string, on string) bool {
	pair := [2]string{fires, on}
	if _, asked := x.pairs[pair]; !asked {
		x.pairs[pair] = inhibitedModel(x.c.Inhibits, [][]impl.Label{x.labels[fires]}, x.labels[on])
	}
	return x.pairs[pair]
}

func (x *tellModel) inhibited(text string) bool {
	for fires := range x.fires {
		if x.inhibits(fires, text) {
			return true
		}
	}
	return false
}

// lists tells labels by their texts, rising.
func (x *tellModel) lists(texts map[string]bool) [][]impl.Label {
	var out [][]impl.Label
	for text := range texts {
		out = append(out, x.labels[text])
	}
	slices.SortFunc(out, compareModel)
	return out
}

func (x *tellModel) flush(g *groupModel, member int, at int) {
	if downModel(x.m, member, at) {
		return
	}
	own, all := x.books[member], []int{member}
	for other := range x.m.Members {
		if other == member || !reachModel(x.m, member, other, at) {
			continue
		}
		all = append(all, other)
		theirs, there := x.books[other][g.id]
		if mine, has := own[g.id]; there && (!has || theirs.time > mine.time) {
			own[g.id] = theirs
		}
	}
	entry, told := own[g.id]
	firing, ended, held, fresh := map[string]bool{}, map[string]bool{}, map[string]bool{}, false
	for text := range g.alerts {
		if x.fires[text] && !x.silenced(x.labels[text], at) && !x.inhibited(text) {
			firing[text], held[text] = true, true
			fresh = fresh || !entry.held[text]
		}
	}
	for text := range entry.held {
		if x.fires[text] {
			held[text] = true
		} else {
			ended[text] = true
		}
	}
	route := x.c.Routes[g.route]
	again := told && len(firing) > 0 && at >= entry.time+route.Again
	if mutedModel(x.c, g.route, at) || !fresh && len(ended) == 0 && !again {
		return
	}
	x.told = append(x.told, impl.Notice{Time: at, Member: member, Route: g.route, Key: g.key, Receiver: route.Receiver, Firing: x.lists(firing), Ended: x.lists(ended)})
	for _, n := range all {
		x.books[n][g.id] = entryModel{at, held}
	}
}

func (x *tellModel) isOver(g *groupModel) bool {
	for text := range g.alerts {
		if x.fires[text] {
			return false
		}
	}
	return !slices.ContainsFunc(x.books, func(b map[string]entryModel) bool { return len(b[g.id].held) > 0 })
}

func (x *tellModel) inOrder() []*groupModel {
	return slices.SortedFunc(maps.Values(x.groups), func(a *groupModel, b *groupModel) int {
		if a.route != b.route {
			return a.route - b.route
		}
		return compareModel(a.key, b.key)
	})
}

// at does all flushes of a time.
func (x *tellModel) at(now int) {
	for member := range x.m.Members {
		for _, g := range x.inOrder() {
			if back := now - member*x.m.Peer - g.first; back < 0 || back%x.c.Routes[g.route].Every != 0 {
				continue
			}
			if x.flushes++; x.flushes > 400 {
				return
			}
			x.flush(g, member, now)
			if member == x.m.Members-1 && x.isOver(g) {
				delete(x.groups, g.id)
			}
		}
	}
}

// behind is the next time at which there may be something to do.
func (x *tellModel) behind(now int, ins []impl.AlertIn) int {
	next := math.MaxInt
	for _, in := range ins {
		if in.Time > now {
			next = min(next, in.Time)
		}
	}
	for _, g := range x.groups {
		every := x.c.Routes[g.route].Every
		for member := range x.m.Members {
			due := g.first + member*x.m.Peer
			if due <= now {
				due += ((now-due)/every + 1) * every
			}
			next = min(next, due)
		}
	}
	return next
}

// runMembersModel tells the notices, and how many flushes were done: of too many, one more than may be; -1 where something is not as said.
func runMembersModel(c impl.NotifyConf, m impl.MemberConf, ins []impl.AlertIn, end int) ([]impl.Notice, int) {
	if !goodMembersModel(c, m) || !goodInsModel(ins) || !isWithin(end, 0, maxTime) {
		return nil, -1
	}
	x := newTellModel(c, m)
	for now := x.behind(-1, ins); now <= end; now = x.behind(now, ins) {
		for _, in := range ins {
			if in.Time == now {
				x.hear(in)
			}
		}
		if x.at(now); x.flushes > 400 {
			return nil, x.flushes
		}
	}
	return x.told, x.flushes
}

// alertNames are the labels of the alerts of these tests, in the order in which their values stand in a name.
var alertNames = []string{"alert", "job", "zone"}

// alertOf makes labels of their values with `.` between: `High.api` has an alert and a job; a part that is empty is not there.
func alertOf(name string) []impl.Label {
	var l []impl.Label
	for i, value := range strings.Split(name, ".") {
		if value != "" {
			l = append(l, impl.Label{Name: alertNames[i], Value: value})
		}
	}
	return l
}

// nameOf is the name of which alertOf makes these labels, or the text of others.
func nameOf(l []impl.Label) string {
	var parts []string
	for _, name := range alertNames {
		parts = append(parts, toModel(l)[name])
	}
	name := strings.TrimRight(strings.Join(parts, "."), ".")
	if !same(alertOf(name), l) {
		return plainLabels(l)
	}
	return name
}

// insOf reads ins, with `, ` between, each a time, a blank, and the alert's name, with `-` ahead where it ends.
func insOf(text string) []impl.AlertIn {
	var ins []impl.AlertIn
	for _, part := range strings.Split(text, ", ") {
		told, name, _ := strings.Cut(part, " ")
		name, ends := strings.CutPrefix(name, "-")
		if at, err := strconv.Atoi(told); err == nil {
			ins = append(ins, impl.AlertIn{Time: at, Labels: alertOf(name), Ends: ends})
		}
	}
	return ins
}

// noticeText tells a notice: its time, with `@` and the member behind it that is not the first one, the receiver and the key, and what fires and has ended.
func noticeText(n impl.Notice) string {
	out := strconv.Itoa(n.Time)
	if n.Member != 0 {
		out += "@" + strconv.Itoa(n.Member)
	}
	out += " " + n.Receiver
	if len(n.Key) > 0 {
		out += "(" + joined(n.Key, func(x impl.Label) string { return x.Value }) + ")"
	}
	out += " "
	for _, l := range n.Firing {
		out += "+" + nameOf(l)
	}
	for _, l := range n.Ended {
		out += "-" + nameOf(l)
	}
	return out
}

func noticesText(l []impl.Notice) string {
	return joined(l, noticeText)
}

// firesAt says whether an alert fires behind all ins of a time.
func firesAt(ins []impl.AlertIn, labels []impl.Label, at int) bool {
	fires := false
	for _, in := range ins {
		if in.Time <= at && same(in.Labels, labels) {
			fires = !in.Ends
		}
	}
	return fires
}

// allFiring are all alerts that fire at a time.
func allFiring(ins []impl.AlertIn, at int) [][]impl.Label {
	var out [][]impl.Label
	for _, in := range ins {
		if firesAt(ins, in.Labels, at) {
			out = append(out, in.Labels)
		}
	}
	return out
}

// checkNotice sees, by the configuration and the ins alone, that a notice may say what it says.
func checkNotice(t *testing.T, c impl.NotifyConf, m impl.MemberConf, ins []impl.AlertIn, n impl.Notice) {
	t.Helper()
	if len(n.Firing)+len(n.Ended) == 0 || n.Receiver != c.Routes[n.Route].Receiver || !isWithin(n.Member, 0, m.Members-1) || downModel(m, n.Member, n.Time) || impl.MutedAt(c, n.Route, n.Time) {
		t.Fatalf("the notice %s", noticeText(n))
	}
	for _, l := range slices.Concat(n.Firing, n.Ended) {
		if !slices.Contains(impl.RoutesFor(c.Routes, l), n.Route) || !same(impl.GroupOf(c.Routes, n.Route, l), n.Key) {
			t.Fatalf("the group of %s in %s", nameOf(l), noticeText(n))
		}
	}
	for _, l := range n.Firing {
		if !firesAt(ins, l, n.Time) || len(impl.Silenced(c.Silences, l, n.Time)) > 0 || len(c.Inhibits) > 0 && impl.Inhibited(c.Inhibits, allFiring(ins, n.Time), l) {
			t.Fatalf("%s is told by %s", nameOf(l), noticeText(n))
		}
	}
	for _, l := range n.Ended {
		if firesAt(ins, l, n.Time) {
			t.Fatalf("%s fires at %s", nameOf(l), noticeText(n))
		}
	}
	for _, lists := range [][][]impl.Label{n.Firing, n.Ended} {
		for i := 1; i < len(lists); i++ {
			if impl.CompareLabels(lists[i-1], lists[i]) >= 0 {
				t.Fatalf("the order of %s", noticeText(n))
			}
		}
	}
}

// compareNotices is the order of things of one time.
func compareNotices(a impl.Notice, b impl.Notice) int {
	for _, d := range []int{a.Time - b.Time, a.Member - b.Member, a.Route - b.Route} {
		if d != 0 {
			return d
		}
	}
	return compareModel(a.Key, b.Key)
}

// groupName tells apart the groups of notices.
func groupName(n impl.Notice) string {
	return fmt.Sprint(n.Route, labelsTextModel(n.Key))
}

// checkPromise21 sees what promise 21 says, by the ins and the answer alone.
func checkPromise21(t *testing.T, c impl.NotifyConf, m impl.MemberConf, ins []impl.AlertIn, end int, got []impl.Notice) {
	t.Helper()
	told := map[string]bool{}            // by all members
	held := map[string]map[string]bool{} // as one that never fails has it
	last := map[string]int{}             // when each group was told of
	faultless := len(m.Cuts)+len(m.Downs) == 0
	for i, n := range got {
		if n.Time > end || i > 0 && compareNotices(got[i-1], n) >= 0 {
			t.Fatalf("the order of %s", noticesText(got))
		}
		checkNotice(t, c, m, ins, n)
		id, fresh := groupName(n), len(n.Ended) > 0
		if held[id] == nil {
			held[id] = map[string]bool{}
		}
		for _, l := range n.Ended {
			text := id + labelsTextModel(l)
			if !told[text] || faultless && !held[id][text] {
				t.Fatalf("%s was not told ahead of %s", nameOf(l), noticeText(n))
			}
			delete(held[id], text)
		}
		for _, l := range n.Firing {
			text := id + labelsTextModel(l)
			fresh = fresh || !held[id][text]
			told[text], held[id][text] = true, true
		}
		if faultless && !fresh && n.Time-last[id] < c.Routes[n.Route].Again {
			t.Fatalf("%s comes too early: %s", noticeText(n), noticesText(got))
		}
		last[id] = n.Time
	}
	if len(c.Silences)+len(c.Inhibits)+len(c.Intervals) > 0 {
		return
	}
	if faultless {
		checkAllTold(t, c, m, ins, end, held)
	}
	for member := range m.Members {
		if !slices.ContainsFunc(m.Downs, func(x impl.Cut) bool { return x.A == member }) {
			checkStaysTold(t, c, m, ins, end, told)
		}
	}
}

// isLater says whether, by a time, each group of a route has had a flush of each member since another time.
func isLater(r impl.Route, m impl.MemberConf, since int, at int) bool {
	return at >= since+max(r.Wait, r.Every)+(m.Members-1)*m.Peer
}

// checkAllTold sees that, long enough behind the last change, each alert was told last as it is.
func checkAllTold(t *testing.T, c impl.NotifyConf, m impl.MemberConf, ins []impl.AlertIn, end int, held map[string]map[string]bool) {
	t.Helper()
	change := 0
	for _, in := range ins {
		if in.Time <= end {
			change = in.Time
		}
	}
	for _, in := range ins {
		for _, n := range impl.RoutesFor(c.Routes, in.Labels) {
			id := groupName(impl.Notice{Route: n, Key: impl.GroupOf(c.Routes, n, in.Labels)})
			if isLater(c.Routes[n], m, change, end) && held[id][id+labelsTextModel(in.Labels)] != firesAt(ins, in.Labels, end) {
				t.Fatalf("%s was told last as it is not, up to %d", nameOf(in.Labels), end)
			}
		}
	}
}

// checkStaysTold sees that what begins once and stays was told, as one member is never down.
func checkStaysTold(t *testing.T, c impl.NotifyConf, m impl.MemberConf, ins []impl.AlertIn, end int, told map[string]bool) {
	t.Helper()
	for i, in := range ins {
		others := slices.Delete(slices.Clone(ins), i, i+1)
		if slices.ContainsFunc(others, func(x impl.AlertIn) bool { return same(x.Labels, in.Labels) }) || in.Ends {
			continue
		}
		for _, n := range impl.RoutesFor(c.Routes, in.Labels) {
			id := groupName(impl.Notice{Route: n, Key: impl.GroupOf(c.Routes, n, in.Labels)})
			if isLater(c.Routes[n], m, in.Time, end) && !told[id+labelsTextModel(in.Labels)] {
				t.Fatalf("%s begins at %d and is not told up to %d", nameOf(in.Labels), in.Time, end)
			}
		}
	}
}

// checkMembers holds RunMembers against the model, and against what promise 21 says.
func checkMembers(t *testing.T, c impl.NotifyConf, m impl.MemberConf, ins []impl.AlertIn, end int) []impl.Notice {
	t.Helper()
	conf, confKept := guarded(c)
	members, membersKept := guarded(m)
	list, listKept := guarded(ins)
	got := impl.RunMembers(conf, members, list, end)
	want, flushes := runMembersModel(c, m, ins, end)
	if !same(got, want) {
		t.Fatalf("RunMembers of %s, %v, %s, %d:\n%s\nnot %s", shortly(c), m, shortly(ins), end, noticesText(got), noticesText(want))
	}
	if !confKept() || !membersKept() || !listKept() {
		t.Fatalf("RunMembers wrote into %s, %v or %s", shortly(c), m, shortly(ins))
	}
	checkOwn(t, got, conf, members, list)
	if isWithin(flushes, 0, 400) {
		checkPromise21(t, c, m, ins, end, got)
	}
	return got
}

// checkNotify holds RunNotify against the model of one member without faults.
func checkNotify(t *testing.T, c impl.NotifyConf, ins []impl.AlertIn, end int) []impl.Notice {
	t.Helper()
	conf, confKept := guarded(c)
	list, listKept := guarded(ins)
	got := impl.RunNotify(conf, list, end)
	if !same(got, checkMembers(t, c, impl.MemberConf{Members: 1}, ins, end)) || !confKept() || !listKept() {
		t.Fatalf("RunNotify of %s, %s, %d: %s", shortly(c), shortly(ins), end, noticesText(got))
	}
	checkOwn(t, got, conf, list)
	return got
}

// tellConf is a configuration of routes alone.
func tellConf(lines ...string) impl.NotifyConf {
	return impl.NotifyConf{Routes: routesOf(lines...)}
}

// jobs is the configuration that most of these tests have: groups by job, flushed 2 later and each 10 from there on.
func jobs() impl.NotifyConf {
	return tellConf("mail by job wait 2 every 10 again 25")
}

// quietAt are silences of one matcher, each told by two times.
func quietAt(match string, times ...int) []impl.Silence {
	var l []impl.Silence
	for i := 0; i < len(times); i += 2 {
		l = append(l, silence("s"+strconv.Itoa(100+i), match, times[i], times[i+1]))
	}
	return l
}

// minute is an interval that has the minutes from one to another of each day.
func minute(from int, to int) impl.Interval {
	return impl.Interval{Minutes: []impl.Range{{From: from, To: to}}}
}

func cut(a int, b int, from int, to int) impl.Cut {
	return impl.Cut{A: a, B: b, From: from, To: to}
}

func down(a int, from int, to int) impl.Cut {
	return cut(a, 0, from, to)
}

// tellCase is what is heard, by one member or more, and what is told.
type tellCase struct {
	name    string
	conf    impl.NotifyConf
	members impl.MemberConf
	ins     string
	end     int
	want    string
}

func checkTellCases(t *testing.T, cases []tellCase) {
	t.Helper()
	for _, x := range cases {
		x.members.Members = max(x.members.Members, 1)
		if got := noticesText(checkMembers(t, x.conf, x.members, insOf(x.ins), x.end)); got != x.want {
			t.Errorf("%s:\n%s\nnot %s", x.name, got, x.want)
		}
		if x.members.Members == 1 && len(x.members.Downs) == 0 {
			checkNotify(t, x.conf, insOf(x.ins), x.end)
		}
	}
}

func tryNotify(t *testing.T, want bool, name string, c impl.NotifyConf) {
	t.Helper()
	arg, kept := guarded(c)
	if got := impl.GoodNotify(arg); got != want || got != goodNotifyModel(c) || !kept() {
		t.Errorf("%s: %v", name, got)
	}
	one := impl.MemberConf{Members: 1}
	if impl.GoodMembers(arg, one) != want || !kept() {
		t.Errorf("%s, members", name)
	}
	checkMuted(t, c, 0, 65)
	ins := []impl.AlertIn{{Time: 5, Labels: labelsOf("told", "1")}}
	if got := checkNotify(t, c, ins, maxTime); !want && got != nil {
		t.Errorf("%s tells %s", name, noticesText(got))
	}
}

func TestNotifyThatIsGood(t *testing.T) {
	if impl.MaxIns != 200 || impl.MaxFlushes != 400 || impl.MaxMembers != 5 || impl.MaxFaults != 20 {
		t.Error("the limits")
	}
	// With all of it.
	full := func() impl.NotifyConf {
		return impl.NotifyConf{
			Routes:    routesOf("top by job wait 1 every "+strconv.Itoa(maxTime)+" again 3 mute 0,2", `  kid {a="1"} wait 1 every `+strconv.Itoa(maxTime)+" again 3 mute 1"),
			Intervals: []impl.Interval{minute(1, 2), minute(3, 4), minute(5, 6)},
			Silences:  []impl.Silence{silence("s", `a="1"`, 0, 9)},
			Inhibits:  []impl.Inhibit{inhibit(`a="1"`, `b="1"`)},
		}
	}
	try := func(want bool, name string, change func(c *impl.NotifyConf)) {
		t.Helper()
		c := full()
		change(&c)
		tryNotify(t, want, name, c)
	}
	tryNotify(t, false, "nothing at all", impl.NotifyConf{})
	tryNotify(t, true, "routes alone", tellConf("top wait 1 every "+strconv.Itoa(maxTime)+" again 1"))
	try(true, "all", func(c *impl.NotifyConf) {})
	try(true, "no silences", func(c *impl.NotifyConf) { c.Silences = nil })
	try(true, "no inhibits", func(c *impl.NotifyConf) { c.Inhibits = nil })
	try(false, "no routes", func(c *impl.NotifyConf) { c.Routes = nil })
	try(false, "empty routes", func(c *impl.NotifyConf) { c.Routes = []impl.Route{} })
	try(false, "no intervals", func(c *impl.NotifyConf) { c.Intervals = nil })
	try(true, "no intervals and no Mute", func(c *impl.NotifyConf) { c.Intervals, c.Routes[0].Mute, c.Routes[1].Mute = nil, nil, nil })
	try(false, "no intervals, and the Mute of a kid", func(c *impl.NotifyConf) { c.Intervals, c.Routes[0].Mute = nil, nil })
	try(true, "no Mute", func(c *impl.NotifyConf) { c.Routes[0].Mute, c.Routes[1].Mute = nil, nil })
	try(false, "two trees", func(c *impl.NotifyConf) { c.Routes[0].Kids = 0 })
	try(false, "a kid that is not there", func(c *impl.NotifyConf) { c.Routes = c.Routes[:1] })
	try(false, "a receiver that is none", func(c *impl.NotifyConf) { c.Routes[1].Receiver = "" })
	try(false, "Every 0", func(c *impl.NotifyConf) { c.Routes[1].Every = 0 })
	try(false, "a first route that is On", func(c *impl.NotifyConf) { c.Routes[0].On = true })
	try(false, "a first route with matchers", func(c *impl.NotifyConf) { c.Routes[0].Match = matchersOf(`told="1"`) })
	for n := range 4 {
		for _, at := range []int{0, 1} {
			last := impl.NotifyConf{Routes: full().Routes, Intervals: slices.Repeat([]impl.Interval{minute(1, 2)}, n+1)}
			last.Routes[0].Mute, last.Routes[1].Mute = nil, nil
			last.Routes[at].Mute = []int{n}
			tryNotify(t, true, fmt.Sprintf("a Mute of the last one of %d, at %d", n+1, at), last)
			last.Intervals = last.Intervals[:n]
			tryNotify(t, false, fmt.Sprintf("a Mute of the one behind the last one of %d, at %d", n, at), last)
			last.Routes[at].Mute = []int{0, 19}
			tryNotify(t, false, fmt.Sprintf("a Mute of 19 of %d, at %d", n, at), last)
		}
	}
	for _, mute := range [][]int{{-1}, {3}, {0, 3}, {1, 0}, {1, 1}, {20}, {math.MaxInt}, {math.MinInt}, {0, math.MaxInt}} {
		try(false, fmt.Sprint("Mute ", mute), func(c *impl.NotifyConf) { c.Routes[0].Mute = mute })
		try(false, fmt.Sprint("Mute of a kid ", mute), func(c *impl.NotifyConf) { c.Routes[1].Mute = mute })
	}
	for n, want := range map[int]bool{0: true, 1: true, 19: true, 20: true, 21: false, 40: false} {
		c := full()
		c.Routes[0].Mute, c.Routes[1].Mute = nil, nil
		c.Intervals = slices.Repeat([]impl.Interval{{}}, n)
		tryNotify(t, want, fmt.Sprintf("%d intervals", n), c)
		for i := range n {
			c.Routes[0].Mute = append(c.Routes[0].Mute, i)
		}
		tryNotify(t, want, fmt.Sprintf("%d intervals, all in a Mute", n), c)
	}
	for at := range 3 {
		for _, bad := range []impl.Interval{{Zone: 1441}, minute(2, 1), minute(0, 1440), {Free: []int{-1}}, {Days: []impl.Range{{From: 0, To: 1}}}, {Years: slices.Repeat([]impl.Range{{From: 1970, To: 1970}}, 11)}} {
			try(false, "a bad interval", func(c *impl.NotifyConf) { c.Intervals[at] = bad })
			try(false, "a bad interval without a Mute", func(c *impl.NotifyConf) { c.Intervals[at], c.Routes[0].Mute, c.Routes[1].Mute = bad, nil, nil })
		}
	}
	for n, want := range map[int]bool{50: true, 51: false} {
		try(want, fmt.Sprintf("%d silences", n), func(c *impl.NotifyConf) { c.Silences = manySilences(n) })
	}
	for n, want := range map[int]bool{20: true, 21: false} {
		try(want, fmt.Sprintf("%d inhibits", n), func(c *impl.NotifyConf) { c.Inhibits = slices.Repeat(c.Inhibits, n) })
	}
	for n, want := range map[int]bool{39: true, 40: true, 41: false} {
		l := fan(n)
		tryNotify(t, want, fmt.Sprintf("%d routes", n), impl.NotifyConf{Routes: slices.Collect(func(yield func(impl.Route) bool) {
			for _, r := range l {
				r.Every = maxTime
				if !yield(r) {
					return
				}
			}
		})})
	}
	try(false, "a silence without matchers", func(c *impl.NotifyConf) { c.Silences = append(c.Silences, impl.Silence{Id: "t", To: 9}) })
	try(false, "silences that fall", func(c *impl.NotifyConf) { c.Silences = append(c.Silences, silence("a", `a="1"`, 0, 9)) })
	try(false, "a silence that ends ahead of its beginning", func(c *impl.NotifyConf) { c.Silences[0].From = 10 })
	try(false, "an inhibit without a Source", func(c *impl.NotifyConf) { c.Inhibits[0].Source = nil })
	try(false, "an inhibit without a Target", func(c *impl.NotifyConf) { c.Inhibits[0].Target = nil })
	try(false, "an inhibit with names that fall", func(c *impl.NotifyConf) { c.Inhibits[0].Same = []string{"b", "a"} })
	for _, m := range badMatchers() {
		try(false, "bad matchers of a silence", func(c *impl.NotifyConf) { c.Silences[0].Match = m })
		try(false, "bad matchers of an inhibit", func(c *impl.NotifyConf) { c.Inhibits[0].Source = m })
		try(false, "bad matchers of a route", func(c *impl.NotifyConf) { c.Routes[1].Match = m })
	}
}

// tryMembers asks whether members are good, and what they tell of an alert.
func tryMembers(t *testing.T, want bool, c impl.NotifyConf, m impl.MemberConf) {
	t.Helper()
	conf, confKept := guarded(c)
	members, kept := guarded(m)
	if got := impl.GoodMembers(conf, members); got != want || got != goodMembersModel(c, m) || !kept() || !confKept() {
		t.Errorf("GoodMembers of %s, %v: %v", shortly(c), m, got)
	}
	// Behind all Downs, and long ahead of the next flush.
	ins := []impl.AlertIn{{Time: 400, Labels: labelsOf("told", "1")}}
	if got := checkMembers(t, c, m, ins, 420); (len(got) > 0) != want {
		t.Errorf("%s, %v tell %s", shortly(c), m, noticesText(got))
	}
}

func TestMembersThatAreGood(t *testing.T) {
	hour := tellConf("top wait 0 every 3600 again 3600")
	for _, n := range append(edgeInts(), 2, 3, 4, 5, 6, 7, 1000) {
		tryMembers(t, n >= 1 && n <= 5, hour, impl.MemberConf{Members: n})
		tryMembers(t, n >= 1 && n <= 5, hour, impl.MemberConf{Members: n, Peer: 1})
	}
	// The least Every of all routes counts, wherever it stands.
	for _, lines := range [][]string{{"top wait 0 every 100 again 9"}, {"top wait 0 every 100 again 9", "  kid {a=\"1\"} wait 0 every 101 again 9"}, {"top wait 0 every 101 again 9", "  kid {a=\"1\"} wait 0 every 500 again 9", "    deep {a=\"1\"} wait 0 every 100 again 9"}} {
		c := tellConf(lines...)
		for members := 1; members <= 5; members++ {
			for _, peer := range append(edgeInts(), 19, 20, 24, 25, 26, 33, 34, 49, 50, 51, 98, 99, 100, 101, maxTime-1, maxTime, maxTime+1, math.MaxInt/4, math.MaxInt/4+1, math.MaxInt/2+1, 1<<62) {
				good := peer >= 0 && peer <= maxTime && (members == 1 || peer <= 99/(members-1))
				tryMembers(t, good, c, impl.MemberConf{Members: members, Peer: peer})
			}
		}
	}
	for _, peer := range []int{maxTime / 4, maxTime/4 - 1} {
		far := tellConf("top wait 0 every " + strconv.Itoa(maxTime) + " again 9")
		tryMembers(t, peer < maxTime/4, far, impl.MemberConf{Members: 5, Peer: peer})
	}
	tryMembers(t, true, hour, impl.MemberConf{Members: 1, Peer: maxTime})
	tryMembers(t, false, hour, impl.MemberConf{Members: 1, Peer: maxTime + 1})
	tryMembers(t, false, hour, impl.MemberConf{})
	for n, want := range map[int]bool{0: true, 1: true, 19: true, 20: true, 21: false, 40: false} {
		tryMembers(t, want, hour, impl.MemberConf{Members: 2, Cuts: slices.Repeat([]impl.Cut{{A: 1, From: 3, To: 9}}, n)})
		tryMembers(t, want, hour, impl.MemberConf{Members: 2, Downs: slices.Repeat([]impl.Cut{{A: 1, From: 3, To: 9}}, n)})
	}
	tryMembers(t, true, hour, impl.MemberConf{Members: 2, Cuts: slices.Repeat([]impl.Cut{{A: 1, From: 3, To: 9}}, 20), Downs: slices.Repeat([]impl.Cut{{A: 1, From: 3, To: 9}}, 20)})
	for members := 1; members <= 5; members++ {
		for a := -1; a <= 6; a++ {
			in := a >= 0 && a < members
			for b := -1; b <= 6; b++ {
				tryMembers(t, in && b >= 0 && b < members, hour, impl.MemberConf{Members: members, Cuts: []impl.Cut{cut(a, b, 3, 9)}})
				tryMembers(t, in && b == 0, hour, impl.MemberConf{Members: members, Downs: []impl.Cut{cut(a, b, 3, 9)}})
			}
		}
	}
	for _, wild := range []int{math.MinInt, math.MaxInt, -5, 5} {
		tryMembers(t, false, hour, impl.MemberConf{Members: 3, Cuts: []impl.Cut{{}, cut(wild, 0, 3, 9)}})
		tryMembers(t, false, hour, impl.MemberConf{Members: 3, Cuts: []impl.Cut{cut(0, wild, 3, 9), {}}})
		tryMembers(t, false, hour, impl.MemberConf{Members: 3, Downs: []impl.Cut{{}, cut(wild, 0, 3, 9)}})
		tryMembers(t, false, hour, impl.MemberConf{Members: 3, Downs: []impl.Cut{cut(0, wild, 3, 9), {}}})
	}
	// A From behind its To is as said: there is no time in it.
	for _, c := range []struct {
		from, to int
		want     bool
	}{
		{0, 0, true}, {0, 399, true}, {421, maxTime, true}, {maxTime, maxTime, true}, {9, 3, true}, {maxTime, 0, true}, {401, 400, true}, {401, 399, true},
		{-1, 0, false}, {0, -1, false}, {-1, -1, false}, {maxTime + 1, maxTime + 1, false}, {0, maxTime + 1, false}, {maxTime + 1, 0, false}, {math.MinInt, math.MaxInt, false}, {math.MinInt, 9, false}, {3, math.MaxInt, false}, {math.MaxInt, math.MinInt, false},
	} {
		for n := range 3 {
			tryMembers(t, c.want, hour, impl.MemberConf{Members: 3, Cuts: []impl.Cut{cut(n, 1, c.from, c.to)}})
			tryMembers(t, c.want, hour, impl.MemberConf{Members: 3, Downs: []impl.Cut{down(n, c.from, c.to)}})
			tryMembers(t, c.want, hour, impl.MemberConf{Members: 3, Cuts: []impl.Cut{{}, cut(n, n, c.from, c.to)}, Downs: []impl.Cut{{}}})
		}
	}
	for _, bad := range []impl.NotifyConf{{}, {Routes: fan(41)}, {Routes: hour.Routes, Intervals: []impl.Interval{{Zone: 1441}}}, {Routes: hour.Routes, Silences: []impl.Silence{{}}}, {Routes: hour.Routes, Inhibits: []impl.Inhibit{{}}}} {
		tryMembers(t, false, bad, impl.MemberConf{Members: 1})
		tryMembers(t, false, bad, impl.MemberConf{Members: 2, Peer: 1})
	}
}

func checkMuted(t *testing.T, c impl.NotifyConf, route int, at int) bool {
	t.Helper()
	arg, kept := guarded(c)
	got := impl.MutedAt(arg, route, at)
	if got != mutedModel(c, route, at) || !kept() {
		t.Fatalf("MutedAt %s, %d, %d: %v", shortly(c), route, at, got)
	}
	return got
}

func TestMutedRoutes(t *testing.T) {
	c := tellConf("top wait 1 every 2 again 3", `  one {a="1"} wait 1 every 2 again 3 mute 1`, `  two {a="2"} wait 1 every 2 again 3 mute 0,2,3`, "  last wait 1 every 2 again 3 mute 4")
	c.Intervals = []impl.Interval{minute(1, 1), minute(2, 3), minute(3, 4), minute(3, 5), {}}
	for route, want := range map[int]string{0: "", 1: "2 3", 2: "1 3 4 5", 3: "0 1 2 3 4 5 6 7", 4: "", -1: "", 5: "", 40: "", math.MaxInt: "", math.MinInt: ""} {
		var got []string
		for m := range 8 {
			if checkMuted(t, c, route, m*60) {
				got = append(got, strconv.Itoa(m))
			}
			if checkMuted(t, c, route, m*60+59) != slices.Contains(got, strconv.Itoa(m)) {
				t.Errorf("route %d at the end of minute %d", route, m)
			}
		}
		if strings.Join(got, " ") != want {
			t.Errorf("route %d: %v, not %s", route, got, want)
		}
	}
	for at, want := range map[int]bool{0: true, maxTime: true, -1: false, maxTime + 1: false, math.MinInt: false, math.MaxInt: false} {
		if checkMuted(t, c, 3, at) != want {
			t.Errorf("at %d", at)
		}
		checkMuted(t, c, 2, at)
	}
	bad := c
	bad.Intervals = c.Intervals[:4]
	for route := -1; route < 5; route++ {
		if checkMuted(t, bad, route, 180) {
			t.Errorf("route %d of a bad configuration", route)
		}
	}
	for _, change := range []func(c *impl.NotifyConf){
		func(c *impl.NotifyConf) { c.Silences = []impl.Silence{{}} },
		func(c *impl.NotifyConf) { c.Inhibits = []impl.Inhibit{{}} },
		func(c *impl.NotifyConf) { c.Intervals = append(slices.Clone(c.Intervals), impl.Interval{Zone: -1441}) },
		func(c *impl.NotifyConf) {
			c.Intervals = append(slices.Clone(c.Intervals), slices.Repeat([]impl.Interval{{}}, 16)...)
		},
		func(c *impl.NotifyConf) { c.Routes = c.Routes[:3] },
		func(c *impl.NotifyConf) { c.Routes = append(slices.Clone(c.Routes), c.Routes[3]) },
	} {
		x := c
		change(&x)
		if checkMuted(t, x, 3, 180) || checkMuted(t, x, 2, 180) {
			t.Errorf("%s", shortly(x))
		}
	}
	all := impl.NotifyConf{Routes: routesOf("r wait 1 every 2 again 3 mute 0,1,2,3,4,5,6,7,8,9,10,11,12,13,14,15,16,17,18,19")}
	for n := range 20 {
		all.Intervals = append(all.Intervals, minute(2*n, 2*n))
	}
	for m := range 45 {
		if checkMuted(t, all, 0, m*60) != (m < 40 && m%2 == 0) {
			t.Errorf("twenty intervals at %d", m)
		}
	}
	// A time that has no date by the interval's zone is in it never.
	zone := impl.NotifyConf{Routes: routesOf("r wait 1 every 2 again 3 mute 0"), Intervals: []impl.Interval{{Zone: -1}}}
	if checkMuted(t, zone, 0, 59) || !checkMuted(t, zone, 0, 60) {
		t.Error("a zone ahead of all times")
	}
}

func TestWhatTellsNothing(t *testing.T) {
	c, one := jobs(), impl.MemberConf{Members: 1}
	two := impl.MemberConf{Members: 2, Peer: 3}
	refused := func(name string, c impl.NotifyConf, m impl.MemberConf, ins []impl.AlertIn, end int) {
		t.Helper()
		if got := checkMembers(t, c, m, ins, end); got != nil {
			t.Errorf("%s: %s", name, noticesText(got))
		}
		if got := checkNotify(t, c, ins, end); m.Members == 1 && got != nil {
			t.Errorf("%s, one: %s", name, noticesText(got))
		}
	}
	taken := func(name string, ins []impl.AlertIn, end int, many int) {
		t.Helper()
		for _, m := range []impl.MemberConf{one, two} {
			if got := checkMembers(t, c, m, ins, end); len(got) != many {
				t.Errorf("%s: %s", name, noticesText(got))
			}
		}
		checkNotify(t, c, ins, end)
	}
	taken("an alert", insOf("5 a.x"), 30, 1)
	taken("no ins", nil, 30, 0)
	taken("ins behind the end", insOf("31 a.x"), 30, 0)
	for _, times := range [][]int{{5, 5}, {5, 6}, {0, 0}, {0, 30}, {0, maxTime}, {5, 5, 5}, {4, 5, 5}} {
		var ins []impl.AlertIn
		for i, at := range times {
			ins = append(ins, impl.AlertIn{Time: at, Labels: alertOf("a.x" + strconv.Itoa(i))})
		}
		if times[len(times)-1] < 20 {
			taken(fmt.Sprint("times ", times), ins, 20, len(times))
		} else {
			taken(fmt.Sprint("times ", times), ins, 20, 1)
		}
	}
	for _, times := range [][]int{{-1}, {-1, 5}, {5, -1}, {5, 4}, {5, 5, 4}, {1, 6, 5, 9}, {maxTime + 1}, {5, maxTime + 1}, {math.MinInt}, {math.MaxInt}, {5, math.MaxInt}, {math.MinInt, 5}, {math.MinInt, math.MaxInt}, {30, 29}, {maxTime, 5}} {
		var ins, ends []impl.AlertIn
		for i, at := range times {
			ins = append(ins, impl.AlertIn{Time: at, Labels: alertOf("a.x" + strconv.Itoa(i))})
			ends = append(ends, impl.AlertIn{Time: at, Labels: alertOf("b"), Ends: true})
		}
		for _, m := range []impl.MemberConf{one, two} {
			refused(fmt.Sprint("times ", times), c, m, ins, 20)
			refused(fmt.Sprint("times of ends ", times), c, m, slices.Concat(insOf("0 a.x"), ends), 20)
		}
	}
	for _, bad := range badLabels() {
		refused("bad labels", c, one, []impl.AlertIn{{Time: 1, Labels: alertOf("a")}, {Time: 2, Labels: bad}}, 20)
		refused("bad labels of an end", c, two, []impl.AlertIn{{Time: 1, Labels: alertOf("a")}, {Time: 2, Labels: bad, Ends: true}}, 20)
		refused("bad labels behind the end", c, one, []impl.AlertIn{{Time: 1, Labels: alertOf("a")}, {Time: 200, Labels: bad}}, 20)
	}
	taken("labels that are none", insOf("5 "), 20, 1)
	taken("twenty labels", []impl.AlertIn{{Time: 5, Labels: manyLabels(20)}}, 20, 1)
	for _, end := range []int{-1, maxTime + 1, math.MinInt, math.MaxInt, -maxTime} {
		// Their group ends, so there would not be too many flushes.
		refused(fmt.Sprint("the end ", end), c, one, insOf("0 a.x, 5 -a.x"), end)
		refused(fmt.Sprint("the end ", end), c, two, insOf("0 a.x, 5 -a.x"), end)
	}
	taken("the greatest end", insOf("0 a.x, 5 -a.x"), maxTime, 2)
	taken("the end 0", insOf("0 a.x"), 0, 0)
	for _, m := range []impl.MemberConf{{}, {Members: 6}, {Members: -1}, {Members: 2, Peer: 10}, {Members: 2, Peer: -1}, {Members: 2, Downs: []impl.Cut{{A: 2}}}, {Members: 2, Cuts: []impl.Cut{{B: 2}}}, {Members: 2, Downs: []impl.Cut{{B: 1}}}} {
		refused(fmt.Sprint("members ", m), c, m, insOf("0 a.x"), 20)
	}
	for _, bad := range []impl.NotifyConf{{}, {Routes: fan(41)}, {Routes: c.Routes, Intervals: []impl.Interval{{Zone: 1441}}}, {Routes: c.Routes, Silences: []impl.Silence{{}}}, {Routes: c.Routes, Inhibits: []impl.Inhibit{{}}}, {Routes: routesOf("r wait 0 every 1 again 1 mute 0")}} {
		refused("a bad configuration", bad, one, insOf("0 a.x"), 20)
		refused("a bad configuration, and two", bad, impl.MemberConf{Members: 2}, insOf("0 a.x"), 20)
	}
	// So many ins, whether they change anything or not.
	for _, n := range []int{199, 200, 201, 1000} {
		ends := slices.Concat(insOf("0 a.x"), slices.Repeat(insOf("1 -b"), n-1))
		begins := slices.Repeat(insOf("0 a.x"), n)
		late := slices.Concat(insOf("0 a.x"), slices.Repeat(insOf("99 b"), n-1))
		for _, ins := range [][]impl.AlertIn{ends, begins, late} {
			if n <= 200 {
				taken(fmt.Sprintf("%d ins", n), ins, 20, 1)
			} else {
				refused(fmt.Sprintf("%d ins", n), c, one, ins, 20)
				refused(fmt.Sprintf("%d ins", n), c, two, ins, 20)
			}
		}
	}
}

func TestTimesOfTelling(t *testing.T) {
	at := func(line string) impl.NotifyConf { return tellConf(line) }
	three := tellConf("mail by job wait 2 every 10 again 100", `  pager {alert="a"} by alert wait 3 every 7 again 100 on`, `  chat {alert=~"a|b"} wait 0 every 5 again 100`, `  never {alert="n"} wait 0 every 1 again 1`)
	checkTellCases(t, []tellCase{
		{"one alert", jobs(), impl.MemberConf{}, "1 a.x", 20, "3 mail(x) +a.x"},
		{"one that ends", jobs(), impl.MemberConf{}, "1 a.x, 7 -a.x", 20, "3 mail(x) +a.x; 13 mail(x) -a.x"},
		{"the first flush is at the end", jobs(), impl.MemberConf{}, "1 a.x", 3, "3 mail(x) +a.x"},
		{"the first flush is behind the end", jobs(), impl.MemberConf{}, "1 a.x", 2, ""},
		{"the second flush is at the end", jobs(), impl.MemberConf{}, "1 a.x, 13 -a.x", 13, "3 mail(x) +a.x; 13 mail(x) -a.x"},
		{"the second flush is behind the end", jobs(), impl.MemberConf{}, "1 a.x, 12 -a.x", 12, "3 mail(x) +a.x"},
		{"begins and ends at one time", jobs(), impl.MemberConf{}, "1 a.x, 1 -a.x", 40, ""},
		{"begins and ends at one time, beside another one", jobs(), impl.MemberConf{}, "1 a.x, 1 -a.x, 2 b.x", 40, "3 mail(x) +b.x; 33 mail(x) +b.x"},
		{"ends and begins at one time", jobs(), impl.MemberConf{}, "1 a.x, 7 -a.x, 7 a.x", 30, "3 mail(x) +a.x"},
		{"ends and begins at the time of a flush", jobs(), impl.MemberConf{}, "1 a.x, 13 -a.x, 13 a.x", 30, "3 mail(x) +a.x"},
		{"begins and ends at the time of a flush", jobs(), impl.MemberConf{}, "1 a.x, 13 b.x, 13 -b.x", 30, "3 mail(x) +a.x"},
		{"begins, ends and begins at one time", jobs(), impl.MemberConf{}, "1 a.x, 1 -a.x, 1 a.x", 20, "3 mail(x) +a.x"},
		{"begins, ends, begins and ends at one time", jobs(), impl.MemberConf{}, "1 a.x, 1 -a.x, 1 a.x, 1 -a.x", 20, ""},
		{"ends and begins between two flushes", jobs(), impl.MemberConf{}, "1 a.x, 5 -a.x, 9 a.x", 30, "3 mail(x) +a.x"},
		{"ends, is told, and begins again", jobs(), impl.MemberConf{}, "1 a.x, 1 b.x, 5 -a.x, 15 a.x", 30, "3 mail(x) +a.x+b.x; 13 mail(x) +b.x-a.x; 23 mail(x) +a.x+b.x"},
		{"begins twice", jobs(), impl.MemberConf{}, "1 a.x, 4 a.x, 20 -a.x", 40, "3 mail(x) +a.x; 23 mail(x) -a.x"},
		{"begins twice at one time", jobs(), impl.MemberConf{}, "1 a.x, 1 a.x, 20 -a.x", 40, "3 mail(x) +a.x; 23 mail(x) -a.x"},
		{"begins twice ahead of the first flush", jobs(), impl.MemberConf{}, "1 a.x, 2 a.x", 20, "3 mail(x) +a.x"},
		{"begins twice, and ends twice", jobs(), impl.MemberConf{}, "1 a.x, 2 a.x, 5 -a.x, 6 -a.x", 40, "3 mail(x) +a.x; 13 mail(x) -a.x"},
		{"ends without having begun", jobs(), impl.MemberConf{}, "1 -a.x, 5 -b.x", 40, ""},
		{"ends without having begun, and begins", jobs(), impl.MemberConf{}, "1 -a.x, 5 a.x", 20, "7 mail(x) +a.x"},
		{"ends without having begun, beside another one", jobs(), impl.MemberConf{}, "1 b.x, 4 -a.x", 20, "3 mail(x) +b.x"},
		{"begins at the time of a flush", jobs(), impl.MemberConf{}, "1 a.x, 3 b.x", 20, "3 mail(x) +a.x+b.x"},
		{"begins behind a flush", jobs(), impl.MemberConf{}, "1 a.x, 4 b.x", 20, "3 mail(x) +a.x; 13 mail(x) +a.x+b.x"},
		{"ends at the time of the first flush", jobs(), impl.MemberConf{}, "1 a.x, 3 -a.x", 40, ""},
		{"ends at the time of the second flush", jobs(), impl.MemberConf{}, "1 a.x, 13 -a.x", 40, "3 mail(x) +a.x; 13 mail(x) -a.x"},
		{"ends behind the second flush", jobs(), impl.MemberConf{}, "1 a.x, 14 -a.x", 40, "3 mail(x) +a.x; 23 mail(x) -a.x"},
		{"Wait 0", at("mail wait 0 every 10 again 25"), impl.MemberConf{}, "1 a, 11 -a", 30, "1 mail +a; 11 mail -a"},
		{"Wait 0, and all ins of a time are first", at("mail wait 0 every 10 again 25"), impl.MemberConf{}, "1 a, 1 b, 1 -a, 1 c", 5, "1 mail +b+c"},
		{"Wait 0, ended at once", at("mail wait 0 every 10 again 25"), impl.MemberConf{}, "1 a, 1 -a", 50, ""},
		{"Wait 0 at the time 0 and the end 0", at("mail wait 0 every 10 again 25"), impl.MemberConf{}, "0 a", 0, "0 mail +a"},
		{"Wait 0 and all members at once", at("mail wait 0 every 10 again 25"), impl.MemberConf{Members: 3}, "1 a, 11 -a", 30, "1 mail +a; 11 mail -a"},
		{"at the greatest time", at("mail wait 0 every 10 again 25"), impl.MemberConf{}, fmt.Sprintf("%d a, %d b", maxTime-10, maxTime), maxTime, fmt.Sprintf("%d mail +a; %d mail +a+b", maxTime-10, maxTime)},
		{"the longest Wait", at(fmt.Sprintf("mail wait %d every %d again %d", maxTime, maxTime, maxTime)), impl.MemberConf{Members: 5}, "0 a, 1 b", maxTime, fmt.Sprintf("%d mail +a+b", maxTime)},
		{"the longest Wait from 1 on", at(fmt.Sprintf("mail wait %d every %d again %d", maxTime, maxTime, maxTime)), impl.MemberConf{}, "1 a", maxTime, ""},
		{"the longest Every", at(fmt.Sprintf("mail wait 0 every %d again %d", maxTime, maxTime)), impl.MemberConf{Members: 2, Peer: maxTime - 1}, "0 a, 5 -a", maxTime, fmt.Sprintf("0 mail +a; %d@1 mail -a", maxTime-1)},
		{"several routes", three, impl.MemberConf{}, "1 a.x, 2 b.x, 3 c.x, 9 -a.x", 11, "1 chat +a.x; 4 pager(a) +a.x; 5 mail(x) +c.x; 6 chat +a.x+b.x; 11 pager(a) -a.x; 11 chat +b.x-a.x"},
		{"all routes of a tree at one time", tellConf("top wait 1 every 10 again 99", `  c {alert="a"} wait 1 every 10 again 99 on`, `  b {alert="a"} wait 1 every 10 again 99 on`, `  a {alert=~"a|b"} wait 1 every 10 again 99`), impl.MemberConf{}, "2 b, 2 a, 2 c", 20, "3 top +c; 3 c +a; 3 b +a; 3 a +a+b"},
		{"keys at one time", jobs(), impl.MemberConf{}, "1 a.y, 1 b.x, 1 a.z, 1 c, 1 a.x", 20, "3 mail +c; 3 mail(x) +a.x+b.x; 3 mail(y) +a.y; 3 mail(z) +a.z"},
		{"labels without any of By", jobs(), impl.MemberConf{}, "1 c, 1 b, 5 ", 20, "3 mail +b+c; 13 mail ++b+c"},
		{"groups of several names", tellConf("mail by alert,job,zone wait 2 every 10 again 25"), impl.MemberConf{}, "1 a.x.e, 1 a.x, 1 a.y.e, 1 a", 10, "3 mail(a) +a; 3 mail(a; x) +a.x; 3 mail(a; x; e) +a.x.e; 3 mail(a; y; e) +a.y.e"},
	})
}

func TestTimesOfSeveralMembers(t *testing.T) {
	// Nobody reaches another one, so each member tells for itself when it has a flush.
	apart := func(members int, peer int) impl.MemberConf {
		m := impl.MemberConf{Members: members, Peer: peer}
		for a := range members {
			for b := range a {
				m.Cuts = append(m.Cuts, cut(a, b, 0, maxTime))
			}
		}
		return m
	}
	two := tellConf("top by job wait 4 every 10 again 99", `  pager {alert="a"} by job wait 1 every 10 again 99 on`, "  mail by job wait 4 every 10 again 99")
	checkTellCases(t, []tellCase{
		{"each member later", jobs(), apart(3, 4), "1 a.x", 20, "3 mail(x) +a.x; 7@1 mail(x) +a.x; 11@2 mail(x) +a.x"},
		{"each member later, and what comes between", jobs(), apart(3, 4), "1 a.x, 5 b.x, 9 -a.x", 16, "3 mail(x) +a.x; 7@1 mail(x) +a.x+b.x; 11@2 mail(x) +b.x; 13 mail(x) +b.x-a.x"},
		{"a later member is at the end", jobs(), apart(3, 4), "1 a.x", 11, "3 mail(x) +a.x; 7@1 mail(x) +a.x; 11@2 mail(x) +a.x"},
		{"a later member is behind the end", jobs(), apart(3, 4), "1 a.x", 10, "3 mail(x) +a.x; 7@1 mail(x) +a.x"},
		{"two later members are behind the end", jobs(), apart(3, 4), "1 a.x", 6, "3 mail(x) +a.x"},
		{"all members are behind the end", jobs(), apart(3, 4), "1 a.x", 2, ""},
		{"all members at once", jobs(), apart(5, 0), "1 a.x", 12, "3 mail(x) +a.x; 3@1 mail(x) +a.x; 3@2 mail(x) +a.x; 3@3 mail(x) +a.x; 3@4 mail(x) +a.x"},
		{"members ahead of keys", jobs(), apart(2, 0), "1 b.y, 1 a.x", 12, "3 mail(x) +a.x; 3 mail(y) +b.y; 3@1 mail(x) +a.x; 3@1 mail(y) +b.y"},
		{"members ahead of routes", two, apart(2, 3), "2 a.x, 2 b.y", 9, "3 pager(x) +a.x; 6 mail(x) +a.x; 6 mail(y) +b.y; 6@1 pager(x) +a.x; 9@1 mail(x) +a.x; 9@1 mail(y) +b.y"},
		{"a later member's first flush and the first member's second one", jobs(), apart(2, 9), "1 a.x, 2 b.y, 12 -a.x", 23, "3 mail(x) +a.x; 4 mail(y) +b.y; 13 mail(x) -a.x; 13@1 mail(y) +b.y"},
		{"an in at the time of a later member", jobs(), apart(2, 5), "1 a.x, 8 b.x", 8, "3 mail(x) +a.x; 8@1 mail(x) +a.x+b.x"},
		{"an in behind the time of a later member", jobs(), apart(2, 5), "1 a.x, 9 b.x", 9, "3 mail(x) +a.x; 8@1 mail(x) +a.x"},
		{"an end at the time of a later member", jobs(), apart(2, 5), "1 a.x, 8 -a.x", 20, "3 mail(x) +a.x; 13 mail(x) -a.x"},
		{"members that reach each other are as one", jobs(), impl.MemberConf{Members: 5}, "1 a.x, 5 b.x, 14 -a.x", 40, "3 mail(x) +a.x; 13 mail(x) +a.x+b.x; 23 mail(x) +b.x-a.x"},
		{"a member that is later tells what is new", jobs(), impl.MemberConf{Members: 2, Peer: 4}, "1 a.x, 5 b.x, 8 -a.x", 20, "3 mail(x) +a.x; 7@1 mail(x) +a.x+b.x; 13 mail(x) +b.x-a.x"},
	})
}

func TestBooksOfMembers(t *testing.T) {
	three := func(cuts []impl.Cut, downs ...impl.Cut) impl.MemberConf {
		return impl.MemberConf{Members: 3, Peer: 3, Cuts: cuts, Downs: downs}
	}
	two := func(peer int, cuts []impl.Cut, downs ...impl.Cut) impl.MemberConf {
		return impl.MemberConf{Members: 2, Peer: peer, Cuts: cuts, Downs: downs}
	}
	all := []impl.Cut{cut(0, 1, 0, 99), cut(0, 2, 0, 99), cut(1, 2, 0, 99)}
	var cases []tellCase
	add := func(name string, c impl.NotifyConf, m impl.MemberConf, ins string, end int, want string) {
		cases = append(cases, tellCase{name, c, m, ins, end, want})
	}
	const one, each = "3 mail(x) +a.x", "3 mail(x) +a.x; 7@1 mail(x) +a.x"
	add("the second member has what the first one wrote", jobs(), two(4, nil), "1 a.x", 12, one)
	add("all have what the first one wrote", jobs(), three(nil), "1 a.x", 12, one)
	add("three that are cut apart", jobs(), three(all), "1 a.x", 12, "3 mail(x) +a.x; 6@1 mail(x) +a.x; 9@2 mail(x) +a.x")
	// By a third member what one wrote comes to another, though they are cut apart.
	add("what the second one took the third one takes of it", jobs(), three([]impl.Cut{cut(0, 2, 0, 99)}), "1 a.x", 12, one)
	add("the third one alone is cut off", jobs(), three([]impl.Cut{cut(0, 2, 0, 99), cut(2, 1, 0, 99)}), "1 a.x", 12, "3 mail(x) +a.x; 9@2 mail(x) +a.x")
	for _, c := range []struct {
		from, to int
		want     string
	}{
		{3, 7, each}, {3, 3, one}, {7, 7, one}, {4, 7, one}, {3, 6, one}, {2, 8, each}, {0, 99, each}, {4, 6, one}, {7, 3, one}, {8, 2, one}, {0, 2, one}, {8, 20, one},
	} {
		for _, x := range []impl.Cut{cut(0, 1, c.from, c.to), cut(1, 0, c.from, c.to)} {
			add(fmt.Sprint("a cut ", x), jobs(), two(4, []impl.Cut{x}), "1 a.x", 12, c.want)
		}
		add(fmt.Sprint("no cut of the two ", c), jobs(), two(4, []impl.Cut{cut(0, 0, c.from, c.to), cut(1, 1, c.from, c.to)}), "1 a.x", 12, one)
	}
	add("several cuts that do not last", jobs(), two(4, []impl.Cut{cut(0, 1, 1, 2), cut(1, 0, 3, 3), cut(0, 1, 8, 9)}), "1 a.x", 12, one)
	add("two cuts, one for each time", jobs(), two(4, []impl.Cut{cut(0, 1, 3, 3), cut(1, 0, 7, 7)}), "1 a.x", 12, each)
	for _, c := range []struct {
		member, from, to int
		want             string
	}{
		{0, 3, 3, "7@1 mail(x) +a.x"}, {0, 0, 3, "7@1 mail(x) +a.x"}, {0, 3, 99, "7@1 mail(x) +a.x"}, {0, 0, 2, one}, {0, 4, 99, one}, {0, 2, 4, "7@1 mail(x) +a.x"}, {0, 4, 2, one}, {0, 3, 2, one}, {0, 7, 7, one},
		{1, 7, 7, one}, {1, 3, 7, one}, {1, 3, 6, one}, {1, 0, 99, one}, {1, 3, 3, one},
	} {
		add(fmt.Sprint("a down ", c), jobs(), two(4, nil, down(c.member, c.from, c.to)), "1 a.x", 12, c.want)
	}
	add("the book of one that is down is not written", jobs(), two(4, []impl.Cut{cut(0, 1, 7, 7)}, down(1, 3, 3)), "1 a.x", 12, each)
	add("the book of one that is down is not read", jobs(), two(4, []impl.Cut{cut(0, 1, 3, 3)}, down(0, 7, 7)), "1 a.x", 12, each)
	add("the book of one that is up again is read", jobs(), two(4, []impl.Cut{cut(0, 1, 3, 3)}, down(0, 4, 6)), "1 a.x", 12, one)
	add("both are down", jobs(), two(4, nil, down(0, 0, 20), down(1, 0, 16)), "1 a.x", 25, "17@1 mail(x) +a.x")
	add("both are down for good", jobs(), two(4, nil, down(0, 0, 99), down(1, 0, 99)), "1 a.x", 90, "")
	add("one that is down hears of all ins", jobs(), two(4, nil, down(0, 0, 2), down(1, 0, 99)), "1 a.x", 12, one)
	add("one that was down hears of what ended", jobs(), two(4, nil, down(0, 4, 12)), "1 a.x, 5 -a.x", 40, "3 mail(x) +a.x; 7@1 mail(x) -a.x")
	// The second one tells of b while the first one is down; up again, it takes that from its book.
	add("a later entry is taken", jobs(), two(4, []impl.Cut{cut(0, 1, 7, 7)}), "1 a.x, 5 b.x", 20, "3 mail(x) +a.x; 7@1 mail(x) +a.x+b.x")
	add("a later entry can not be taken", jobs(), two(4, []impl.Cut{cut(0, 1, 7, 13)}), "1 a.x, 5 b.x", 20, "3 mail(x) +a.x; 7@1 mail(x) +a.x+b.x; 13 mail(x) +a.x+b.x")
	add("where it has no entry it takes one", jobs(), two(4, nil, down(0, 0, 8)), "1 a.x", 20, "7@1 mail(x) +a.x")
	add("where it has no entry it takes one that it could not be written", jobs(), two(4, []impl.Cut{cut(0, 1, 0, 12)}, down(0, 0, 8)), "1 a.x", 20, "7@1 mail(x) +a.x")
	add("where it has no entry and can take none", jobs(), two(4, []impl.Cut{cut(0, 1, 0, 13)}, down(0, 0, 8)), "1 a.x", 20, "7@1 mail(x) +a.x; 13 mail(x) +a.x")
	add("where it has no entry it takes one of the time 0", tellConf("mail by job wait 0 every 10 again 25"), two(4, []impl.Cut{cut(0, 1, 0, 0)}), "0 a.x", 9, "0 mail(x) +a.x")
	// At 17 the first one's entry of 3, without b, is the earlier one.
	add("an earlier entry is not taken", jobs(), two(4, []impl.Cut{cut(0, 1, 0, 12)}, down(0, 13, 13)), "1 a.x, 5 b.x", 20, "3 mail(x) +a.x; 7@1 mail(x) +a.x+b.x")
	// Again counts from the entry that is taken: at 33 it is 30 since 3, and 26 since 7.
	add("Again counts from the entry that was taken", tellConf("mail by job wait 2 every 10 again 30"), two(4, []impl.Cut{cut(0, 1, 7, 7)}), "1 a.x, 5 b.x", 42, "3 mail(x) +a.x; 7@1 mail(x) +a.x+b.x; 37@1 mail(x) +a.x+b.x")
	// At 13 both tell, cut apart; the second one alone still holds a, which is silenced then.
	hushed := jobs()
	hushed.Silences = quietAt(`alert="a"`, 8, 18)
	add("an entry of the same time is not taken", hushed, two(0, []impl.Cut{cut(0, 1, 13, 13)}, down(0, 3, 3)), "1 a.x, 8 b.x", 30, "3@1 mail(x) +a.x; 13 mail(x) +b.x; 13@1 mail(x) +b.x; 23 mail(x) +a.x+b.x")
	// The third one, which has none, finds 23 and then 7 at the others, or 3 and then 7.
	rare := tellConf("mail by job wait 2 every 20 again 99")
	add("the latest of several is taken, which is ahead", rare, impl.MemberConf{Members: 3, Peer: 4, Cuts: []impl.Cut{cut(0, 1, 0, 30), cut(0, 2, 0, 30), cut(2, 1, 0, 30)}, Downs: []impl.Cut{down(0, 3, 3), down(2, 11, 11), down(1, 27, 27)}}, "1 a.x, 15 b.x", 40, "7@1 mail(x) +a.x; 23 mail(x) +a.x+b.x")
	add("the latest of several is taken, which is behind", rare, impl.MemberConf{Members: 3, Peer: 4, Cuts: []impl.Cut{cut(0, 1, 0, 99), cut(0, 2, 0, 10), cut(2, 1, 0, 10)}}, "1 a.x, 5 b.x", 20, "3 mail(x) +a.x; 7@1 mail(x) +a.x+b.x")
	// What has ended is told by one alone, as its entry goes to the others.
	add("what has ended is told once", jobs(), three(nil), "1 a.x, 5 -a.x", 40, "3 mail(x) +a.x; 6@1 mail(x) -a.x")
	add("what has ended is told by each, cut apart", jobs(), three(all), "1 a.x, 10 -a.x", 40, "3 mail(x) +a.x; 6@1 mail(x) +a.x; 9@2 mail(x) +a.x; 13 mail(x) -a.x; 16@1 mail(x) -a.x; 19@2 mail(x) -a.x")
	add("what one never told it does not tell as ended", jobs(), three(all, down(1, 6, 6)), "1 a.x, 10 -a.x", 40, "3 mail(x) +a.x; 9@2 mail(x) +a.x; 13 mail(x) -a.x; 19@2 mail(x) -a.x")
	add("groups have entries of their own", jobs(), two(4, []impl.Cut{cut(0, 1, 3, 7)}), "1 a.x, 2 a.y", 12, "3 mail(x) +a.x; 4 mail(y) +a.y; 7@1 mail(x) +a.x")
	checkTellCases(t, cases)
}

func TestWhatIsTold(t *testing.T) {
	again := func(n int) impl.NotifyConf {
		return tellConf("mail by job wait 2 every 10 again " + strconv.Itoa(n))
	}
	checkTellCases(t, []tellCase{
		{"something new", jobs(), impl.MemberConf{}, "1 a.x, 5 b.x", 20, "3 mail(x) +a.x; 13 mail(x) +a.x+b.x"},
		{"nothing new", jobs(), impl.MemberConf{}, "1 a.x", 27, "3 mail(x) +a.x"},
		{"something ended, and others fire", jobs(), impl.MemberConf{}, "1 a.x, 1 b.x, 5 -a.x", 20, "3 mail(x) +a.x+b.x; 13 mail(x) +b.x-a.x"},
		{"something ended, and nothing fires", jobs(), impl.MemberConf{}, "1 a.x, 1 b.x, 5 -a.x, 6 -b.x", 60, "3 mail(x) +a.x+b.x; 13 mail(x) -a.x-b.x"},
		{"one ended, then another one", jobs(), impl.MemberConf{}, "1 a.x, 1 b.x, 5 -b.x, 15 -a.x", 60, "3 mail(x) +a.x+b.x; 13 mail(x) +a.x-b.x; 23 mail(x) -a.x"},
		{"one ended and one is new", jobs(), impl.MemberConf{}, "1 b.x, 5 -b.x, 6 a.x", 20, "3 mail(x) +b.x; 13 mail(x) +a.x-b.x"},
		{"what ended was never told", jobs(), impl.MemberConf{}, "1 a.x, 4 b.x, 5 -b.x", 27, "3 mail(x) +a.x"},
		{"all rise", jobs(), impl.MemberConf{}, "1 c.x, 1 a.x, 2 b.x.z, 2 b.x, 3 d.x, 4 -d.x, 5 -a.x, 6 -c.x, 7 aa.x, 8 B.x", 20, "3 mail(x) +a.x+b.x+b.x.z+c.x+d.x; 13 mail(x) +B.x+aa.x+b.x+b.x.z-a.x-c.x-d.x"},
		{"Again 1", again(1), impl.MemberConf{}, "1 a.x", 30, "3 mail(x) +a.x; 13 mail(x) +a.x; 23 mail(x) +a.x"},
		{"Again 10", again(10), impl.MemberConf{}, "1 a.x", 30, "3 mail(x) +a.x; 13 mail(x) +a.x; 23 mail(x) +a.x"},
		{"Again 11", again(11), impl.MemberConf{}, "1 a.x", 50, "3 mail(x) +a.x; 23 mail(x) +a.x; 43 mail(x) +a.x"},
		{"Again 20", again(20), impl.MemberConf{}, "1 a.x", 50, "3 mail(x) +a.x; 23 mail(x) +a.x; 43 mail(x) +a.x"},
		{"Again 21", again(21), impl.MemberConf{}, "1 a.x", 50, "3 mail(x) +a.x; 33 mail(x) +a.x"},
		{"Again counts from what was told", again(20), impl.MemberConf{}, "1 a.x, 5 b.x", 40, "3 mail(x) +a.x; 13 mail(x) +a.x+b.x; 33 mail(x) +a.x+b.x"},
		{"Again counts from what ended", again(20), impl.MemberConf{}, "1 a.x, 1 b.x, 5 -b.x", 40, "3 mail(x) +a.x+b.x; 13 mail(x) +a.x-b.x; 33 mail(x) +a.x"},
		{"Again by a later member", again(18), impl.MemberConf{Members: 2, Peer: 8}, "1 a.x", 45, "3 mail(x) +a.x; 21@1 mail(x) +a.x; 41@1 mail(x) +a.x"},
		{"Again by all members at once", again(10), impl.MemberConf{Members: 4}, "1 a.x", 25, "3 mail(x) +a.x; 13 mail(x) +a.x; 23 mail(x) +a.x"},
		{"nothing that fires is told again", again(1), impl.MemberConf{}, "1 a.x, 5 -a.x", 60, "3 mail(x) +a.x; 13 mail(x) -a.x"},
	})
	for _, c := range []struct {
		from, to int
		want     string
	}{
		{0, 2, "3 mail(x) +a.x"}, {0, 3, "13 mail(x) +a.x"}, {3, 3, "13 mail(x) +a.x"}, {4, 12, "3 mail(x) +a.x"}, {3, 12, "13 mail(x) +a.x"}, {3, 13, "23 mail(x) +a.x"}, {0, 99, ""}, {13, 13, "3 mail(x) +a.x"},
	} {
		x := jobs()
		x.Silences = quietAt(`alert="a"`, c.from, c.to)
		checkTellCases(t, []tellCase{
			{fmt.Sprint("silenced ", c), x, impl.MemberConf{}, "1 a.x", 27, c.want},
			{fmt.Sprint("another one is silenced ", c), x, impl.MemberConf{}, "1 b.x", 27, "3 mail(x) +b.x"},
		})
	}
}

func TestWhatIsSilenced(t *testing.T) {
	quiet := func(match string, times ...int) impl.NotifyConf {
		c := jobs()
		c.Silences = quietAt(match, times...)
		return c
	}
	checkTellCases(t, []tellCase{
		{"one of two", quiet(`alert="a"`, 0, 99), impl.MemberConf{}, "1 a.x, 1 b.x", 20, "3 mail(x) +b.x"},
		{"all of a job", quiet(`job="x"`, 0, 99), impl.MemberConf{}, "1 a.x, 1 b.x, 1 a.y", 20, "3 mail(y) +a.y"},
		{"all", quiet(`none=""`, 0, 99), impl.MemberConf{}, "1 a.x, 1 b.x", 90, ""},
		{"by several matchers", quiet(`alert="a",job!="x"`, 0, 99), impl.MemberConf{}, "1 a.x, 1 a.y, 1 b.y", 20, "3 mail(x) +a.x; 3 mail(y) +b.y"},
		{"one silence behind the other", quiet(`alert="a"`, 0, 3, 13, 13), impl.MemberConf{}, "1 a.x", 27, "23 mail(x) +a.x"},
		{"held for told, and then silenced", quiet(`alert="a"`, 4, 20), impl.MemberConf{}, "1 a.x, 1 b.x, 5 c.x", 27, "3 mail(x) +a.x+b.x; 13 mail(x) +b.x+c.x"},
		{"silenced as long as it would be told again", quiet(`alert="a"`, 4, 40), impl.MemberConf{}, "1 a.x", 50, "3 mail(x) +a.x; 43 mail(x) +a.x"},
		{"silenced as long as it would be told again, beside another one", quiet(`alert="a"`, 4, 40), impl.MemberConf{}, "1 a.x, 1 b.x", 60, "3 mail(x) +a.x+b.x; 33 mail(x) +b.x"},
		{"told, silenced and ended", quiet(`alert="a"`, 4, 99), impl.MemberConf{}, "1 a.x, 5 -a.x", 50, "3 mail(x) +a.x; 13 mail(x) -a.x"},
		{"silenced and ended", quiet(`alert="a"`, 0, 12), impl.MemberConf{}, "1 a.x, 12 -a.x", 50, ""},
		{"silenced, ended and begun again", quiet(`alert="a"`, 0, 12), impl.MemberConf{}, "1 a.x, 5 -a.x, 9 a.x", 30, "13 mail(x) +a.x"},
		{"silenced at the first member, told by the second one", quiet(`alert="a"`, 0, 3), impl.MemberConf{Members: 2, Peer: 4}, "1 a.x", 20, "7@1 mail(x) +a.x"},
		{"told by the first member, silenced at the second one, which tells of others", quiet(`alert="a"`, 4, 8), impl.MemberConf{Members: 2, Peer: 4}, "1 a.x, 5 b.x", 20, "3 mail(x) +a.x; 7@1 mail(x) +b.x"},
	})
}

func TestWhatIsInhibited(t *testing.T) {
	with := func(l ...impl.Inhibit) impl.NotifyConf {
		c := jobs()
		c.Inhibits = l
		return c
	}
	lost := with(inhibit(`alert="lost"`, `alert=~"a|b"`, "job"))
	wide := with(inhibit(`alert="lost"`, `alert=~"a|b"`))
	hushed := with(inhibit(`alert="lost"`, `alert="a"`, "job"))
	hushed.Silences = quietAt(`alert="lost"`, 0, 99)
	muted := with(inhibit(`alert="lost"`, `alert="a"`))
	muted.Routes = routesOf("mail by job wait 2 every 10 again 25", `  night {alert="lost"} wait 2 every 10 again 25 mute 0`)
	muted.Intervals = []impl.Interval{{}}
	checkTellCases(t, []tellCase{
		{"the source fires", lost, impl.MemberConf{}, "1 a.x, 2 lost.x", 20, "3 mail(x) +lost.x"},
		{"the source fires at the time of the flush", lost, impl.MemberConf{}, "1 a.x, 3 lost.x", 20, "3 mail(x) +lost.x"},
		{"the source fires behind the flush", lost, impl.MemberConf{}, "1 a.x, 4 lost.x", 20, "3 mail(x) +a.x; 13 mail(x) +lost.x"},
		{"the source of another job", lost, impl.MemberConf{}, "1 a.x, 1 lost.y", 20, "3 mail(x) +a.x; 3 mail(y) +lost.y"},
		{"the source of another group", wide, impl.MemberConf{}, "1 a.x, 1 lost.y", 20, "3 mail(y) +lost.y"},
		{"the source of another group, ahead of its first flush", wide, impl.MemberConf{}, "1 a.x, 2 lost.y", 4, "4 mail(y) +lost.y"},
		{"the source ends", lost, impl.MemberConf{}, "1 a.x, 1 lost.x, 5 -lost.x", 20, "3 mail(x) +lost.x; 13 mail(x) +a.x-lost.x"},
		{"the source ended ahead of the flush", lost, impl.MemberConf{}, "1 a.x, 1 lost.x, 3 -lost.x", 20, "3 mail(x) +a.x"},
		{"the source ends and begins again", lost, impl.MemberConf{}, "1 a.x, 1 lost.x, 5 -lost.x, 9 lost.x", 20, "3 mail(x) +lost.x"},
		{"all but the source", lost, impl.MemberConf{}, "1 a.x, 1 b.x, 1 c.x, 1 lost.x", 20, "3 mail(x) +c.x+lost.x"},
		{"held for told, and then inhibited", lost, impl.MemberConf{}, "1 a.x, 1 c.x, 5 lost.x, 15 -lost.x", 30, "3 mail(x) +a.x+c.x; 13 mail(x) +c.x+lost.x; 23 mail(x) +a.x+c.x-lost.x"},
		{"held for told, inhibited and ended", lost, impl.MemberConf{}, "1 a.x, 5 lost.x, 6 -a.x", 20, "3 mail(x) +a.x; 13 mail(x) +lost.x-a.x"},
		{"a source that is silenced", hushed, impl.MemberConf{}, "1 a.x, 1 lost.x, 15 -lost.x", 30, "23 mail(x) +a.x"},
		{"a source that is muted", muted, impl.MemberConf{}, "1 a.x, 1 lost.x, 15 -lost.x", 30, "23 mail(x) +a.x"},
		{"each other", with(inhibit(`alert="a"`, `alert="b"`), inhibit(`alert="b"`, `alert="a"`)), impl.MemberConf{}, "1 a.x, 1 b.x, 5 -a.x", 20, "13 mail(x) +b.x"},
		{"one the other, and that one a third", with(inhibit(`alert="a"`, `alert="b"`), inhibit(`alert="b"`, `alert="c"`)), impl.MemberConf{}, "1 a.x, 1 b.x, 1 c.x, 5 -a.x", 20, "3 mail(x) +a.x; 13 mail(x) +b.x-a.x"},
		{"nothing inhibits itself or its like", with(inhibit(`alert="a"`, `job=~"x|y"`)), impl.MemberConf{}, "1 a.x, 1 a.y, 1 b.y", 20, "3 mail(x) +a.x; 3 mail(y) +a.y"},
		{"seen by a later member", lost, impl.MemberConf{Members: 2, Peer: 4}, "1 a.x, 1 lost.x, 4 -lost.x", 12, "3 mail(x) +lost.x; 7@1 mail(x) +a.x-lost.x"},
		{"a source that never was told", lost, impl.MemberConf{Downs: []impl.Cut{down(0, 0, 12)}}, "1 a.x, 1 lost.x, 12 -lost.x", 30, "13 mail(x) +a.x"},
	})
}

func TestWhatIsMuted(t *testing.T) {
	muted := func(i ...impl.Interval) impl.NotifyConf {
		c := tellConf("mail by job wait 2 every 10 again 25 mute 0", `  pager {alert="p"} by job wait 2 every 10 again 25`, `  chat {alert="c"} by job wait 2 every 10 again 25 mute 1`)
		c.Intervals = append(i, impl.Interval{Years: []impl.Range{{From: 2000, To: 2000}}})
		return c
	}
	first, second := muted(minute(0, 0)), muted(minute(1, 1))
	checkTellCases(t, []tellCase{
		{"muted up to 59", first, impl.MemberConf{}, "1 a.x", 70, "63 mail(x) +a.x"},
		{"muted up to 59, told at 60", first, impl.MemberConf{}, "48 a.x", 70, "60 mail(x) +a.x"},
		{"muted at 59", first, impl.MemberConf{}, "47 a.x", 70, "69 mail(x) +a.x"},
		{"muted from 60 on", second, impl.MemberConf{}, "57 a.x, 60 b.x", 70, "59 mail(x) +a.x"},
		{"muted at 60", second, impl.MemberConf{}, "58 a.x", 125, "120 mail(x) +a.x"},
		{"muted and ended", first, impl.MemberConf{}, "1 a.x, 30 -a.x", 99, ""},
		{"told, muted and ended", second, impl.MemberConf{}, "50 a.x, 61 -a.x", 150, "52 mail(x) +a.x; 122 mail(x) -a.x"},
		{"told, and muted as long as it would be told again", second, impl.MemberConf{}, "50 a.x", 130, "52 mail(x) +a.x; 122 mail(x) +a.x"},
		{"told, muted, and ended and begun again", second, impl.MemberConf{}, "50 a.x, 61 -a.x, 90 a.x", 121, "52 mail(x) +a.x"},
		{"told, and others that begin and end while it is muted", second, impl.MemberConf{}, "50 a.x, 61 b.x, 61 c2.x, 70 -b.x, 80 -a.x", 130, "52 mail(x) +a.x; 122 mail(x) +c2.x-a.x"},
		{"a kid is not muted by what is above it", first, impl.MemberConf{}, "1 p.x", 12, "3 pager(x) +p.x"},
		{"a kid of which the interval has not the time", first, impl.MemberConf{}, "1 c.x, 1 a.x", 12, "3 chat(x) +c.x"},
		{"always muted", muted(impl.Interval{}), impl.MemberConf{}, "1 a.x, 50 -a.x", 999, ""},
		{"the first member is muted, the second one tells", first, impl.MemberConf{Members: 2, Peer: 4}, "56 a.x", 66, "62@1 mail(x) +a.x"},
		{"both are muted", second, impl.MemberConf{Members: 2, Peer: 4}, "60 a.x", 100, ""},
	})
	several := tellConf("mail by job wait 2 every 10 again 99 mute 0,2")
	several.Intervals = []impl.Interval{minute(0, 0), minute(0, 9), minute(1, 1)}
	checkTellCases(t, []tellCase{{"muted by several intervals", several, impl.MemberConf{}, "1 a.x", 140, "123 mail(x) +a.x"}})
	// Silences, inhibits and muting, each for a while.
	all := tellConf("mail by job wait 2 every 10 again 99 mute 0")
	all.Intervals = []impl.Interval{minute(0, 0)}
	all.Silences = quietAt(`alert="a"`, 60, 79)
	all.Inhibits = []impl.Inhibit{inhibit(`alert="lost"`, `alert="a"`)}
	checkTellCases(t, []tellCase{{"muted, then silenced, then inhibited", all, impl.MemberConf{}, "1 a.x, 70 lost.y, 99 -lost.y", 110, "72 mail(y) +lost.y; 102 mail(y) -lost.y; 103 mail(x) +a.x"}})
}

func TestGroupsBeginAndEnd(t *testing.T) {
	two := func(peer int, cuts []impl.Cut, downs ...impl.Cut) impl.MemberConf {
		return impl.MemberConf{Members: 2, Peer: peer, Cuts: cuts, Downs: downs}
	}
	silent, night, always := jobs(), jobs(), jobs()
	silent.Silences = quietAt(`alert="a"`, 0, 50)
	night.Routes[0].Mute, night.Intervals = []int{0}, []impl.Interval{minute(1, 1)}
	always.Inhibits = []impl.Inhibit{inhibit(`alert="lost"`, `alert="a"`)}
	checkTellCases(t, []tellCase{
		{"told as ended, it begins anew", jobs(), impl.MemberConf{}, "1 a.x, 5 -a.x, 14 a.x", 27, "3 mail(x) +a.x; 13 mail(x) -a.x; 16 mail(x) +a.x"},
		{"told as ended, it begins anew by another one", jobs(), impl.MemberConf{}, "1 a.x, 5 -a.x, 14 b.x", 27, "3 mail(x) +a.x; 13 mail(x) -a.x; 16 mail(x) +b.x"},
		{"begun anew it has none of those ahead", jobs(), impl.MemberConf{}, "1 a.x, 1 b.x, 5 -a.x, 5 -b.x, 14 b.x, 30 a.x", 40, "3 mail(x) +a.x+b.x; 13 mail(x) -a.x-b.x; 16 mail(x) +b.x; 36 mail(x) +a.x+b.x"},
		{"begun anew it flushes from there on", jobs(), impl.MemberConf{}, "1 a.x, 5 -a.x, 18 a.x, 24 -a.x", 60, "3 mail(x) +a.x; 13 mail(x) -a.x; 20 mail(x) +a.x; 30 mail(x) -a.x"},
		{"begun anew twice", jobs(), impl.MemberConf{}, "1 a.x, 5 -a.x, 14 a.x, 15 -a.x, 17 a.x", 40, "3 mail(x) +a.x; 13 mail(x) -a.x; 19 mail(x) +a.x"},
		{"one that fires again at the last flush goes on", jobs(), impl.MemberConf{}, "1 a.x, 5 -a.x, 13 a.x, 14 -a.x", 60, "3 mail(x) +a.x; 23 mail(x) -a.x"},
		{"another one that fires at the last flush", jobs(), impl.MemberConf{}, "1 a.x, 5 -a.x, 13 b.x, 14 c.x", 30, "3 mail(x) +a.x; 13 mail(x) +b.x-a.x; 23 mail(x) +b.x+c.x"},
		{"never told, it ends", jobs(), impl.MemberConf{}, "1 a.x, 2 -a.x, 4 a.x", 20, "6 mail(x) +a.x"},
		{"never told, and begun again at its first flush", jobs(), impl.MemberConf{}, "1 a.x, 2 -a.x, 3 a.x", 20, "3 mail(x) +a.x"},
		{"never told, and another one begins ahead of its first flush", tellConf("mail by job wait 9 every 10 again 25"), impl.MemberConf{}, "1 a.x, 2 -a.x, 8 b.x", 30, "10 mail(x) +b.x"},
		{"ended and told, while others fire", jobs(), impl.MemberConf{}, "1 a.x, 1 b.x, 5 -a.x, 14 a.x", 30, "3 mail(x) +a.x+b.x; 13 mail(x) +b.x-a.x; 23 mail(x) +a.x+b.x"},
		{"other groups go on", jobs(), impl.MemberConf{}, "1 a.x, 1 a.y, 5 -a.x, 5 c.y, 14 b.x, 14 b.y", 30, "3 mail(x) +a.x; 3 mail(y) +a.y; 13 mail(x) -a.x; 13 mail(y) +a.y+c.y; 16 mail(x) +b.x; 23 mail(y) +a.y+b.y+c.y"},
		{"it goes on as long as one is silenced", silent, impl.MemberConf{}, "1 a.x", 60, "53 mail(x) +a.x"},
		{"it goes on as long as one is inhibited", always, impl.MemberConf{}, "1 a.x, 1 lost.y, 52 -lost.y", 60, "3 mail(y) +lost.y; 33 mail(y) +lost.y; 53 mail(x) +a.x; 53 mail(y) -lost.y"},
		{"it goes on as long as what ended is not told", night, impl.MemberConf{}, "50 a.x, 53 -a.x, 90 b.x", 130, "52 mail(x) +a.x; 122 mail(x) +b.x-a.x"},
		{"it is there up to the last member's flush", jobs(), two(4, nil), "1 a.x, 2 -a.x, 5 a.x", 12, "7@1 mail(x) +a.x"},
		{"it is there at the last member's flush", jobs(), two(4, nil), "1 a.x, 2 -a.x, 7 a.x", 12, "7@1 mail(x) +a.x"},
		{"it ended behind the last member's flush", jobs(), two(4, nil), "1 a.x, 2 -a.x, 8 a.x", 12, "10 mail(x) +a.x"},
		{"it ended behind the last member's flush, that one being down", jobs(), two(4, nil, down(1, 7, 7)), "1 a.x, 2 -a.x, 8 a.x", 12, "10 mail(x) +a.x"},
		{"it ended behind the last member's flush, all being down", jobs(), two(4, nil, down(0, 0, 9), down(1, 0, 9)), "1 a.x, 2 -a.x, 8 a.x", 12, "10 mail(x) +a.x"},
		{"it is there up to the flush of a last member that is down", jobs(), two(4, nil, down(1, 7, 7)), "1 a.x, 2 -a.x, 5 a.x", 20, "13 mail(x) +a.x"},
		{"it goes on as the first member, cut off, holds one", jobs(), two(4, []impl.Cut{cut(0, 1, 4, 20)}), "1 a.x, 5 -a.x, 9 a.x", 20, "3 mail(x) +a.x; 7@1 mail(x) -a.x; 17@1 mail(x) +a.x"},
		{"it goes on as the first member, being down, holds one", jobs(), two(4, nil, down(0, 4, 30)), "1 a.x, 5 -a.x, 9 a.x", 20, "3 mail(x) +a.x; 7@1 mail(x) -a.x; 17@1 mail(x) +a.x"},
		{"it goes on as the last member, being down, holds one", jobs(), two(4, nil, down(1, 7, 30)), "1 a.x, 5 -a.x, 18 b.x", 30, "3 mail(x) +a.x; 13 mail(x) -a.x; 23 mail(x) +b.x"},
		{"it ends when the one that was down has taken what was told", jobs(), two(4, nil, down(0, 4, 12)), "1 a.x, 5 -a.x, 18 a.x", 22, "3 mail(x) +a.x; 7@1 mail(x) -a.x; 20 mail(x) +a.x"},
		{"it ends with the last one of all members at once", jobs(), impl.MemberConf{Members: 3}, "1 a.x, 5 -a.x, 14 a.x", 20, "3 mail(x) +a.x; 13 mail(x) -a.x; 16 mail(x) +a.x"},
	})
}

// ticking is a configuration that flushes as often as can be, and tells nothing again.
func ticking(lines ...string) impl.NotifyConf {
	return tellConf(append([]string{"mail by job wait 0 every 1 again " + strconv.Itoa(maxTime)}, lines...)...)
}

func TestFlushesAtTheirLimit(t *testing.T) {
	slow := tellConf(fmt.Sprintf("mail by job wait 0 every 2 again %d", maxTime))
	kid := ticking(fmt.Sprintf(`  pager {alert=~"*"} by job wait 0 every 2 again %d on`, maxTime), fmt.Sprintf("  chat by alert wait 0 every 1 again %d", maxTime))
	var many, ended []string
	for i := range 200 {
		many = append(many, fmt.Sprintf("5 a.x%d", i))
		ended = append(ended, fmt.Sprintf("%d %sa.x", i/2, []string{"", "-"}[i%2]))
	}
	for _, c := range []struct {
		name    string
		conf    impl.NotifyConf
		members impl.MemberConf
		ins     string
		last    int // the last end at which there are no more flushes than may be
		many    int // how many notices there are then
	}{
		{"one member", ticking(), impl.MemberConf{Members: 1}, "0 a.x", 399, 1},
		{"one member, later", ticking(), impl.MemberConf{Members: 1}, "1000 a.x", 1399, 1},
		{"two members", ticking(), impl.MemberConf{Members: 2}, "0 a.x", 199, 1},
		{"three members", ticking(), impl.MemberConf{Members: 3}, "0 a.x", 132, 1},
		{"five members", ticking(), impl.MemberConf{Members: 5}, "0 a.x", 79, 1},
		{"two members that wait for each other", slow, impl.MemberConf{Members: 2, Peer: 1}, "0 a.x", 399, 1},
		{"two groups", ticking(), impl.MemberConf{Members: 1}, "0 a.x, 0 a.y", 199, 2},
		{"two groups, one of them later", ticking(), impl.MemberConf{Members: 1}, "0 a.x, 100 a.y", 249, 2},
		{"groups of two routes", kid, impl.MemberConf{Members: 1}, "0 a.x", 265, 2},
		{"a member that is down has flushes too", ticking(), impl.MemberConf{Members: 2, Downs: []impl.Cut{down(1, 0, maxTime)}}, "0 a.x", 199, 1},
		{"all are down", ticking(), impl.MemberConf{Members: 2, Downs: []impl.Cut{down(1, 0, maxTime), down(0, 0, maxTime)}}, "0 a.x", 199, 0},
		{"two hundred groups", ticking(), impl.MemberConf{Members: 1}, strings.Join(many, ", "), 6, 200},
		{"two hundred groups, and two members", ticking(), impl.MemberConf{Members: 2}, strings.Join(many, ", "), 5, 200},
	} {
		for d := -1; d <= 1; d++ {
			got := checkMembers(t, c.conf, c.members, insOf(c.ins), c.last+d)
			if d == 0 && len(got) != c.many || d == 1 && got != nil {
				t.Errorf("%s, %d: %s", c.name, c.last+d, noticesText(got))
			}
		}
		if got := checkMembers(t, c.conf, c.members, insOf(c.ins), maxTime); got != nil {
			t.Errorf("%s, for good: %s", c.name, noticesText(got))
		}
	}
	// Groups that end have no more flushes.
	for _, end := range []int{100, 1000, maxTime} {
		if got := noticesText(checkNotify(t, ticking(), insOf("0 a.x, 5 -a.x, 50 b.x, 60 -b.x"), end)); got != "0 mail(x) +a.x; 5 mail(x) -a.x; 50 mail(x) +b.x; 60 mail(x) -b.x" {
			t.Errorf("up to %d: %s", end, got)
		}
		if got := checkNotify(t, ticking(), insOf(strings.Join(ended, ", ")), end); len(got) != 0 {
			t.Errorf("ended at once, up to %d: %s", end, noticesText(got))
		}
	}
	if got := noticesText(checkNotify(t, ticking(), insOf("0 a.x, 399 -a.x"), maxTime)); got != "0 mail(x) +a.x; 399 mail(x) -a.x" {
		t.Error("the last flush tells that it ended:", got)
	}
	if got := checkNotify(t, ticking(), insOf("0 a.x, 400 -a.x"), maxTime); got != nil {
		t.Error("one flush more:", noticesText(got))
	}
	// Two hundred groups of each of many routes, all at one time.
	wide := fan(40)
	for i := range wide {
		wide[i].On, wide[i].By, wide[i].Wait, wide[i].Every = i > 0, []string{"job"}, 9, maxTime
	}
	for _, members := range []int{1, 5} {
		c := impl.NotifyConf{Routes: wide}
		if got := impl.RunMembers(c, impl.MemberConf{Members: members}, insOf(strings.Join(many, ", ")), 13); got != nil {
			t.Error("ahead of all flushes:", noticesText(got))
		}
		if got := impl.RunMembers(c, impl.MemberConf{Members: members}, insOf(strings.Join(many, ", ")), maxTime); got != nil {
			t.Error("so many groups:", noticesText(got))
		}
	}
}

// tellAsker makes configurations, members and ins at random; times are told in the unit.
type tellAsker struct {
	evalAsker
	unit int
}

func (a tellAsker) span(most int) (int, int) {
	x, y := a.Intn(most), a.Intn(most)
	return min(x, y) * a.unit, max(x, y) * a.unit
}

func (a tellAsker) matchers() []impl.Matcher {
	return matchersOf(oneOf(a.Rand, `alert="a"`, `alert="b"`, `alert=~"a|c"`, `job="x"`, `job!="x"`, `job=""`, `alert!="a",job=~"*"`, `zone="z"`))
}

func (a tellAsker) line(ahead string) string {
	line := ahead + oneOf(a.Rand, "mail", "pager", "chat")
	if ahead != "" && !likely(a.Rand, 4) {
		line += " " + impl.MatchersText(a.matchers())
	}
	line += oneOf(a.Rand, "", " by alert", " by job", " by alert,job", " by job,zone")
	line += fmt.Sprintf(" wait %d every %d again %d", a.Intn(6)*a.unit, (a.Intn(12)+4)*a.unit, (a.Intn(40)+1)*a.unit)
	if ahead != "" && likely(a.Rand, 2) {
		line += " on"
	}
	return line
}

// conf has nothing that keeps from telling where it is plain.
func (a tellAsker) conf(plain bool) impl.NotifyConf {
	lines := []string{a.line("")}
	for _, ahead := range []string{"  ", "    ", "  ", "  "} {
		if likely(a.Rand, 2) && (ahead == "  " || len(lines) > 1) {
			lines = append(lines, a.line(ahead))
		}
	}
	c := tellConf(lines...)
	if plain {
		return c
	}
	for n := range a.Intn(3) {
		from, to := a.span(100)
		c.Intervals = append(c.Intervals, minute(from/60, to/60))
		c.Routes[a.Intn(len(c.Routes))].Mute = []int{a.Intn(n + 1)}
	}
	for n := range a.Intn(3) {
		from, to := a.span(100)
		c.Silences = append(c.Silences, impl.Silence{Id: "s" + strconv.Itoa(n), Match: a.matchers(), From: from, To: to})
	}
	for range a.Intn(3) {
		x := impl.Inhibit{Source: a.matchers(), Target: a.matchers()}
		if likely(a.Rand, 2) {
			x.Same = []string{oneOf(a.Rand, "job", "alert", "zone")}
		}
		c.Inhibits = append(c.Inhibits, x)
	}
	return c
}

// members have no faults where they are faultless.
func (a tellAsker) members(c impl.NotifyConf, faultless bool) impl.MemberConf {
	m := impl.MemberConf{Members: a.Intn(5) + 1}
	least := slices.MinFunc(c.Routes, func(x impl.Route, y impl.Route) int { return x.Every - y.Every }).Every
	most := (least - 1) / max(m.Members-1, 1)
	m.Peer = oneOf(a.Rand, 0, most, a.Intn(most+1), min(a.unit, most))
	if faultless {
		return m
	}
	for range a.Intn(7) {
		from, to := a.span(60)
		m.Cuts = append(m.Cuts, cut(a.Intn(m.Members), a.Intn(m.Members), from, to))
	}
	for range a.Intn(4) {
		from, to := a.span(60)
		m.Downs = append(m.Downs, down(a.Intn(m.Members), from, to))
	}
	return m
}

func (a tellAsker) ins() []impl.AlertIn {
	var ins []impl.AlertIn
	at := 0
	for range a.Intn(30) {
		at += oneOf(a.Rand, 0, 0, a.Intn(4), a.Intn(12)) * a.unit
		ins = append(ins, impl.AlertIn{Time: at, Labels: alertOf(oneOf(a.Rand, "a.x", "a.y", "b.x", "b.y", "c.x", "a", "b..z", "c.x.z", "lost.x")), Ends: likely(a.Rand, 2)})
	}
	return ins
}

// Promise 21, of all kinds of configurations and members at random.
func TestTellingAtRandom(t *testing.T) {
	told, ended, others, nothing, tries := 0, 0, 0, 0, 4000
	for seed := range tries {
		a := tellAsker{newEvalAsker(int64(21000 + seed)), []int{1, 1, 20, 60}[seed%4]}
		c := a.conf(seed%3 == 0)
		m := a.members(c, seed%5 == 0)
		got := checkMembers(t, c, m, a.ins(), (40+a.Intn(80))*a.unit)
		if len(got) == 0 {
			nothing++
		}
		for _, n := range got {
			told++
			if len(n.Ended) > 0 {
				ended++
			}
			if n.Member > 0 {
				others++
			}
		}
	}
	if told < 5*tries || ended < tries || others < tries || nothing > tries/2 {
		t.Errorf("%d notices, %d with what ended, %d of later members; nothing %d times", told, ended, others, nothing)
	}
}

// Promise 21: members without faults that do not wait for each other are as one.
func TestMembersWithoutFaultsAreAsOne(t *testing.T) {
	told, tries := 0, 1500
	for seed := range tries {
		a := tellAsker{newEvalAsker(int64(31000 + seed)), []int{1, 60}[seed%2]}
		c, ins, end := a.conf(seed%3 == 0), a.ins(), (10+a.Intn(50))*a.unit
		one := checkNotify(t, c, ins, end)
		_, flushes := runMembersModel(c, impl.MemberConf{Members: 1}, ins, end)
		for members := 2; members <= 5 && flushes*members <= 400; members++ {
			if got := impl.RunMembers(c, impl.MemberConf{Members: members}, ins, end); !same(got, one) {
				t.Fatalf("%d members: %s, one: %s", members, noticesText(got), noticesText(one))
			}
			told += len(one)
		}
	}
	if told < 5*tries {
		t.Errorf("%d notices", told)
	}
}

// Promise 21: with faults, as long as one member is never down, what begins once and stays is told, and in time.
func TestWhatStaysIsTold(t *testing.T) {
	tries, late := 1500, 0
	for seed := range tries {
		a := tellAsker{newEvalAsker(int64(41000 + seed)), 1}
		c := a.conf(true)
		m := a.members(c, false)
		up := a.Intn(m.Members)
		m.Downs = slices.DeleteFunc(m.Downs, func(x impl.Cut) bool { return x.A == up })
		for other := range m.Members {
			if other != up && likely(a.Rand, 2) {
				m.Downs = append(m.Downs, down(other, 0, maxTime))
			}
		}
		ins := slices.DeleteFunc(a.ins(), func(x impl.AlertIn) bool { return same(x.Labels, alertOf("stays.x")) })
		ins = append(ins, impl.AlertIn{Labels: alertOf("stays.x")})
		if len(ins) > 1 {
			ins[len(ins)-1].Time = ins[len(ins)-2].Time
		}
		end := ins[len(ins)-1].Time + 45
		got := checkMembers(t, c, m, ins, end)
		if _, flushes := runMembersModel(c, m, ins, end); flushes > 400 {
			late++
			continue
		}
		if !slices.ContainsFunc(got, func(n impl.Notice) bool {
			return slices.ContainsFunc(n.Firing, func(l []impl.Label) bool { return same(l, alertOf("stays.x")) })
		}) {
			t.Fatalf("%s, %v: %s", impl.RoutesText(c.Routes), m, noticesText(got))
		}
	}
	if late > tries/3 {
		t.Errorf("%d of %d have too many flushes", late, tries)
	}
}

// What is told up to a time does not hang on what comes behind it.
func TestWhatWasToldStays(t *testing.T) {
	cuts := 0
	for seed := range 600 {
		a := tellAsker{newEvalAsker(int64(51000 + seed)), 1}
		c := a.conf(false)
		m, ins, end := a.members(c, false), a.ins(), 60
		if _, flushes := runMembersModel(c, m, ins, end); flushes > 400 {
			continue
		}
		all := impl.RunMembers(c, m, ins, end)
		for _, to := range []int{0, 7, 20, 41, 59} {
			ahead := slices.DeleteFunc(slices.Clone(ins), func(x impl.AlertIn) bool { return x.Time > to })
			want := slices.DeleteFunc(slices.Clone(all), func(n impl.Notice) bool { return n.Time > to })
			if got := impl.RunMembers(c, m, ahead, to); !same(got, want) {
				t.Fatalf("up to %d: %s, not %s", to, noticesText(got), noticesText(want))
			}
			cuts += len(want)
		}
	}
	if cuts < 3000 {
		t.Errorf("%d notices", cuts)
	}
}

// wronged is a configuration, members, ins and an end of which one thing is changed at random, mostly so that they are not good any more.
func (a tellAsker) wronged(c impl.NotifyConf, m impl.MemberConf, ins []impl.AlertIn, end int) (impl.NotifyConf, impl.MemberConf, []impl.AlertIn, int) {
	c, m, ins = laid(c, 0), laid(m, 0), laid(ins, 0)
	wild := oneOf(a.Rand, -1, 0, 1, 5, 6, 19, 20, maxTime, maxTime+1, math.MaxInt, math.MinInt)
	ins = append(ins, impl.AlertIn{Time: maxTime, Labels: alertOf("a")})
	m.Cuts, m.Downs = append(m.Cuts, impl.Cut{}), append(m.Downs, impl.Cut{})
	some := oneOf(a.Rand, &m.Cuts[len(m.Cuts)-1], &m.Downs[len(m.Downs)-1])
	switch a.Intn(13) {
	case 0:
		c.Routes = a.evalAsker.wronged(c.Routes)
	case 1:
		c.Routes[a.Intn(len(c.Routes))].Mute = []int{wild}
	case 2:
		c.Intervals = append(c.Intervals, a.damaged(a.interval()))
	case 3:
		c.Silences = append(c.Silences, silence(oneOf(a.Rand, "a", "z"), `alert="a"`, 3, wild))
	case 4:
		c.Inhibits = append(c.Inhibits, impl.Inhibit{Source: a.matchers(), Target: oneOf(a.Rand, badMatchers()...)})
	case 5:
		m.Members = wild
	case 6:
		m.Peer = wild
	case 7:
		some.From = wild
	case 8:
		some.To = wild
	case 9:
		some.A, some.B = oneOf(a.Rand, wild, 0), oneOf(a.Rand, wild, 0)
	case 10:
		ins[a.Intn(len(ins))].Time = wild
	case 11:
		ins[a.Intn(len(ins))].Labels = oneOf(a.Rand, badLabels()...)
	default:
		end = wild
	}
	return c, m, ins, end
}

// Promise 27, of arguments of which one is wrong.
func TestTellingOfAnything(t *testing.T) {
	good, tries := 0, 5000
	for seed := range tries {
		a := tellAsker{newEvalAsker(int64(61000 + seed)), 1}
		c := a.conf(false)
		c, m, ins, end := a.wronged(c, a.members(c, false), a.ins(), 40)
		checkMembers(t, c, m, ins, end)
		checkNotify(t, c, ins, end)
		conf, confKept := guarded(c)
		members, membersKept := guarded(m)
		if impl.GoodNotify(conf) != goodNotifyModel(c) || impl.GoodMembers(conf, members) != goodMembersModel(c, m) || !confKept() || !membersKept() {
			t.Fatalf("good: %s, %v", shortly(c), m)
		}
		checkMuted(t, c, a.Intn(len(c.Routes)+2)-1, a.Intn(7000))
		if goodMembersModel(c, m) {
			good++
		}
	}
	if good < tries/20 || good > tries*19/20 {
		t.Errorf("%d of %d are good", good, tries)
	}
	var none impl.NotifyConf
	if impl.GoodNotify(none) || impl.GoodMembers(none, impl.MemberConf{}) || impl.MutedAt(none, 0, 0) || impl.RunNotify(none, nil, 0) != nil || impl.RunMembers(none, impl.MemberConf{}, nil, 0) != nil {
		t.Error("nothing is good")
	}
}

// Promise 27: answers are new memory: what is written into one shows in no other, and in no argument.
func TestNoticesAreNew(t *testing.T) {
	c := tellConf("mail by alert,job wait 0 every 5 again 5", `  pager {alert="a"} by alert,job wait 0 every 5 again 5 on`, "  chat by alert,job wait 0 every 5 again 5")
	m := impl.MemberConf{Members: 3, Peer: 1, Cuts: []impl.Cut{cut(0, 1, 0, 9)}}
	conf, confKept := guarded(c)
	members, membersKept := guarded(m)
	ins, insKept := guarded(insOf("0 a.x, 0 a.x.z, 1 b.x, 7 -a.x"))
	run := func() []impl.Notice { return impl.RunMembers(conf, members, ins, 25) }
	want := laid(run(), 0)
	got := run()
	for i := range got {
		others := laid(got, 0)
		n := &got[i]
		for _, l := range slices.Concat(n.Firing, n.Ended, [][]impl.Label{n.Key}) {
			scribble(l)
			l = l[:cap(l)]
			clear(l)
		}
		clear(n.Firing[:cap(n.Firing)])
		clear(n.Ended[:cap(n.Ended)])
		for j := range got {
			if j != i && !same(got[j], others[j]) {
				t.Fatalf("what is written into %d shows in %d", i, j)
			}
		}
	}
	clear(got[:cap(got)])
	if !confKept() || !membersKept() || !insKept() || !same(run(), want) || len(want) < 10 {
		t.Errorf("what is written into an answer shows; %d notices", len(want))
	}
}

// Members have ended when the call answers, and several calls at once do not touch each other.
func TestMembersEnd(t *testing.T) {
	c, m, ins := jobs(), impl.MemberConf{Members: 5, Peer: 1, Cuts: []impl.Cut{cut(0, 1, 0, 50)}}, insOf("1 a.x, 5 b.x, 14 -a.x, 20 a.y")
	want := impl.RunMembers(c, m, ins, 60)
	before := runtime.NumGoroutine()
	answers := make(chan []impl.Notice)
	for range 8 {
		go func() {
			for range 50 {
				answers <- impl.RunMembers(c, m, ins, 60)
			}
		}()
	}
	for range 8 * 50 {
		if got := <-answers; !same(got, want) {
			t.Fatalf("%s, not %s", noticesText(got), noticesText(want))
		}
	}
	for range 100 {
		impl.RunMembers(c, m, ins, maxTime) // too many flushes
		impl.RunMembers(c, m, nil, 60)
		impl.RunMembers(c, m, ins, -1)
		impl.RunMembers(c, impl.MemberConf{}, ins, 60)
	}
	for wait := 0; runtime.NumGoroutine() > before && wait < 1000; wait++ {
		time.Sleep(time.Millisecond)
	}
	if now := runtime.NumGoroutine(); now > before {
		t.Errorf("%d goroutines ahead, %d behind", before, now)
	}
}

// wideMatchers are as many matchers as there may be, with the longest patterns, all of which fit the labels that have a job.
func wideMatchers(first string) []impl.Matcher {
	m := matchersOf(first)
	for len(m) < 10 {
		m = append(m, impl.Matcher{Name: "job", Op: impl.MatchLike, Value: strings.Repeat("x|", 48) + "j*"})
	}
	return m
}

// All that a configuration may have, for as many alerts as there may be.
func TestTellingOfMuch(t *testing.T) {
	c := tellConf(fmt.Sprintf("mail by none wait 0 every 1 again %d", maxTime))
	for i := range 50 {
		c.Silences = append(c.Silences, impl.Silence{Id: fmt.Sprintf("s%02d", i), Match: wideMatchers(`alert="hushed"`), From: i, To: maxTime})
	}
	for i := range 20 {
		c.Inhibits = append(c.Inhibits, impl.Inhibit{Source: wideMatchers(`alert="lost"`), Target: wideMatchers(`alert=~"a*"`), Same: []string{"zone"}})
		c.Intervals = append(c.Intervals, minute(10+i, 10+i))
		c.Routes[0].Mute = append(c.Routes[0].Mute, i)
	}
	var ins []impl.AlertIn
	for i := range 196 {
		ins = append(ins, impl.AlertIn{Labels: alertOf(fmt.Sprintf("a.j%03d.z%d", i, i%2))})
	}
	ins = append(ins, slices.Concat(insOf("0 hushed.j"), insOf("1 lost.j.z0, 301 lost.j.z1, 302 -lost.j.z1"))...)
	begin := time.Now()
	got := impl.RunNotify(c, ins, 399)
	if len(got) != 4 || len(got[0].Firing) != 196 || len(got[1].Firing) != 99 || nameOf(got[1].Firing[98]) != "lost.j.z0" || len(got[2].Firing) != 2 || len(got[3].Firing) != 99 || len(got[3].Ended) != 1 {
		t.Errorf("%d notices: %s", len(got), shortly(noticesText(got)))
	}
	if spent := time.Since(begin); spent > 20*time.Second {
		t.Errorf("it took %v", spent)
	}
	if got := impl.RunNotify(c, append(ins, impl.AlertIn{Time: 302, Labels: alertOf("b")}), 399); got != nil {
		t.Errorf("one in more: %d notices", len(got))
	}
}
