package tests

import (
	"fmt"
	"math"
	"regexp"
	"slices"
	"strconv"
	"strings"
	"testing"
	"time"

	"loop.example/g00039/impl"
)

// callForm is how the tests tell a call: its Id, `<` and its Parent, `@` and its Service, `:` and its From and To, `!` where it Fails.
var callForm = regexp.MustCompile(`^(\d+)(?:<(\d+))?(?:@(\w+))?:(\d+)-(\d+)(!?)$`)

// traceOf is a trace of calls that are told shortly, with blanks between.
func traceOf(text string) impl.Trace {
	t := impl.Trace{Id: 7}
	number := func(s string) int {
		n, err := strconv.Atoi("0" + s)
		if err != nil {
			panic(text)
		}
		return n
	}
	for _, told := range strings.Fields(text) {
		p := callForm.FindStringSubmatch(told)
		if p == nil {
			panic(told)
		}
		c := impl.Call{Id: number(p[1]), Parent: number(p[2]), Service: p[3], Name: "n", From: number(p[4]), To: number(p[5]), Fail: p[6] != ""}
		if c.Service == "" {
			c.Service = "s"
		}
		t.Calls = append(t.Calls, c)
	}
	return t
}

func goodTraceModel(t impl.Trace) bool {
	if t.Id <= 0 || len(t.Calls) == 0 || len(t.Calls) > 100 {
		return false
	}
	for i, c := range t.Calls {
		ahead := slices.IndexFunc(t.Calls[:i], func(x impl.Call) bool { return x.Id == c.Parent })
		good := c.Id > 0 && isNameModel(c.Service) && isNameModel(c.Name) && isWithin(c.From, 0, c.To) && isWithin(c.To, 0, maxTime)
		if i == 0 {
			good = good && c.Parent == 0
		} else {
			good = good && t.Calls[i-1].Id < c.Id && ahead >= 0 && t.Calls[ahead].From <= c.From
		}
		if !good {
			return false
		}
	}
	return true
}

// edgesOfTimes are all times at which a call begins or ends, rising.
func edgesOfTimes(t impl.Trace) []int {
	var times []int
	for _, c := range t.Calls {
		times = append(times, c.From, c.To)
	}
	slices.Sort(times)
	return slices.Compact(times)
}

// selfTimesModel looks at each piece of time in which nothing begins or ends.
func selfTimesModel(t impl.Trace) []int {
	if !goodTraceModel(t) {
		return nil
	}
	times := edgesOfTimes(t)
	out := make([]int, len(t.Calls))
	for n, c := range t.Calls {
		for i := 1; i < len(times); i++ {
			from, to := times[i-1], times[i]
			inKid := slices.ContainsFunc(t.Calls, func(k impl.Call) bool { return k.Parent == c.Id && k.From <= from && k.To >= to })
			if c.From <= from && c.To >= to && !inKid {
				out[n] += to - from
			}
		}
	}
	return out
}

// kidAt tells the kid of a call that is there just ahead of a moment, the one with the greatest Id.
func kidAt(t impl.Trace, parent int, moment int) (impl.Call, bool) {
	for _, kid := range slices.Backward(t.Calls) {
		if kid.Parent == parent && kid.From < moment && kid.To >= moment {
			return kid, true
		}
	}
	return impl.Call{}, false
}

// criticalPathModel goes back piece by piece, with a stack of the calls that it is in.
func criticalPathModel(t impl.Trace) []impl.PathPart {
	if !goodTraceModel(t) {
		return nil
	}
	var out []impl.PathPart
	times := edgesOfTimes(t)
	within := []impl.Call{t.Calls[0]}
	for i := slices.Index(times, t.Calls[0].To); times[i] > t.Calls[0].From; i-- {
		moment := times[i]
		for within[len(within)-1].From == moment {
			within = within[:len(within)-1]
		}
		for kid, there := kidAt(t, within[len(within)-1].Id, moment); there; kid, there = kidAt(t, kid.Id, moment) {
			within = append(within, kid)
		}
		part := impl.PathPart{Call: within[len(within)-1].Id, From: times[i-1], To: moment}
		if len(out) > 0 && out[0].Call == part.Call {
			out[0].From = part.From
		} else {
			out = slices.Insert(out, 0, part)
		}
	}
	return out
}

func allGoodTraces(l []impl.Trace) bool {
	return len(l) <= 50 && !slices.ContainsFunc(l, func(t impl.Trace) bool { return !goodTraceModel(t) })
}

// serviceEdgesModel looks at all pairs of calls. A blank is less than all that a name has.
func serviceEdgesModel(l []impl.Trace) []impl.Edge {
	if !allGoodTraces(l) {
		return nil
	}
	edges := map[string]*impl.Edge{}
	var keys []string
	for _, t := range l {
		for _, c := range t.Calls {
			for _, kid := range t.Calls {
				if kid.Parent != c.Id {
					continue
				}
				key := c.Service + " " + kid.Service
				if edges[key] == nil {
					edges[key] = &impl.Edge{From: c.Service, To: kid.Service}
					keys = append(keys, key)
				}
				edges[key].Calls++
				edges[key].Total += kid.To
				edges[key].Total -= kid.From
				edges[key].Fails += strings.Count(fmt.Sprint(kid.Fail), "true")
			}
		}
	}
	slices.Sort(keys)
	var out []impl.Edge
	for _, key := range keys {
		out = append(out, *edges[key])
	}
	return out
}

func goodPolicyModel(p impl.Policy) bool {
	switch p {
	case impl.Policy{Kind: 1}:
		return true
	case impl.Policy{Kind: 2, Least: p.Least}:
		return isWithin(p.Least, 0, maxTime)
	case impl.Policy{Kind: 3, Service: p.Service}:
		return isNameModel(p.Service)
	case impl.Policy{Kind: 4, Least: p.Least}:
		return isWithin(p.Least, 1, 1000)
	case impl.Policy{Kind: 5, Least: p.Least}:
		return isWithin(p.Least, 0, 1000)
	}
	return false
}

func goodPoliciesModel(l []impl.Policy) bool {
	return len(l) <= 10 && !slices.ContainsFunc(l, func(p impl.Policy) bool { return !goodPolicyModel(p) })
}

// shareOf is what a PolicyShare holds its Least against.
func shareOf(t impl.Trace) int {
	return slowMix([]byte(fmt.Sprint(t.Id))) % 1000
}

func fails(t impl.Trace) bool {
	return slices.ContainsFunc(t.Calls, func(c impl.Call) bool { return c.Fail })
}

// metModel tells the number of the first policy that a trace meets; how many there are, where it meets none.
func metModel(l []impl.Policy, t impl.Trace) int {
	for i, p := range l {
		meets := p.Kind == 5
		for n, c := range t.Calls {
			meets = meets || p.Kind == 1 && c.Fail || p.Kind == 3 && c.Service == p.Service || n == 0 && p.Kind == 2 && c.To >= c.From+p.Least
		}
		if meets || p.Kind == 4 && shareOf(t) < p.Least {
			return i
		}
	}
	return len(l)
}

func keepTracesModel(l []impl.Policy, traces []impl.Trace) []bool {
	if !goodPoliciesModel(l) || !allGoodTraces(traces) {
		return nil
	}
	out := make([]bool, len(traces))
	came := make([]int, len(l)+1)
	for i, t := range traces {
		met := metModel(l, t)
		came[met]++
		out[i] = met < len(l) && (l[met].Kind != 5 || came[met] <= l[met].Least)
	}
	return out
}

// checkPath sees what promise 23 says of the critical path of a good trace.
func checkPath(t *testing.T, x impl.Trace, path []impl.PathPart, self []int) {
	t.Helper()
	first := x.Calls[0]
	moment := first.From
	in := map[int]int{}
	for i, p := range path {
		n := slices.IndexFunc(x.Calls, func(c impl.Call) bool { return c.Id == p.Call })
		if n < 0 || p.From != moment || p.To <= p.From || p.From < x.Calls[n].From || p.To > x.Calls[n].To {
			t.Fatalf("the part %d of %v, of %v", i, path, x)
		}
		for _, kid := range x.Calls {
			if kid.Parent == p.Call && max(kid.From, p.From) < min(kid.To, p.To) {
				t.Fatalf("in the part %d of %v a kid is there: %v", i, path, x)
			}
		}
		in[n] += p.To - p.From
		moment = p.To
	}
	if moment != first.To {
		t.Fatalf("%v ends too early: %v", path, x)
	}
	for n, long := range in {
		if long > self[n] {
			t.Fatalf("of %v %d is longer than the call is by itself: %v", path, x.Calls[n].Id, x)
		}
	}
}

// checkTrace holds what is asked of a trace alone against the models, and what promise 23 says of it.
func checkTrace(t *testing.T, x impl.Trace) bool {
	t.Helper()
	arg, kept := guarded(x)
	good := impl.GoodTrace(arg)
	if good != goodTraceModel(x) || !kept() {
		t.Fatalf("GoodTrace of %s: %v", shortly(x), good)
	}
	self := impl.SelfTimes(arg)
	if want := selfTimesModel(x); !slices.Equal(self, want) || !kept() {
		t.Fatalf("SelfTimes of %s: %v, not %v", shortly(x), self, want)
	}
	path := impl.CriticalPath(arg)
	if want := criticalPathModel(x); !slices.Equal(path, want) || !kept() {
		t.Fatalf("CriticalPath of %s: %s, not %s", shortly(x), pathText(path), pathText(want))
	}
	checkOwn(t, self, arg)
	checkOwn(t, path, arg)
	if !good {
		return false
	}
	checkPath(t, x, path, self)
	for i, c := range x.Calls {
		if self[i] < 0 || self[i] > c.To-c.From {
			t.Fatalf("SelfTimes of %s: %v", shortly(x), self)
		}
	}
	return true
}

func checkEdges(t *testing.T, l []impl.Trace) []impl.Edge {
	t.Helper()
	arg, kept := guarded(l)
	got := impl.ServiceEdges(arg)
	if want := serviceEdgesModel(l); !slices.Equal(got, want) || !kept() {
		t.Fatalf("ServiceEdges of %s: %v, not %v", shortly(l), got, want)
	}
	checkOwn(t, got, arg)
	if !allGoodTraces(l) {
		return got
	}
	kids, calls := 0, 0
	for _, x := range l {
		kids += len(x.Calls) - 1
	}
	for _, e := range got {
		calls += e.Calls
	}
	if calls != kids {
		t.Fatalf("ServiceEdges of %s: %d calls, not %d", shortly(l), calls, kids)
	}
	return got
}

func checkKeep(t *testing.T, l []impl.Policy, traces []impl.Trace) []bool {
	t.Helper()
	arg, kept := guarded(l)
	if good := impl.GoodPolicies(arg); good != goodPoliciesModel(l) || !kept() {
		t.Fatalf("GoodPolicies of %v: %v", l, good)
	}
	on, keptTraces := guarded(traces)
	got := impl.KeepTraces(arg, on)
	if want := keepTracesModel(l, traces); !slices.Equal(got, want) || !kept() || !keptTraces() {
		t.Fatalf("KeepTraces by %v of %s: %v, not %v", l, shortly(traces), got, want)
	}
	checkOwn(t, got, arg, on)
	for i := range got {
		if len(l) > 0 && l[0].Kind == impl.PolicyFail && fails(traces[i]) && !got[i] {
			t.Fatalf("KeepTraces by %v of %s: what fails is not kept", l, shortly(traces))
		}
	}
	return got
}

// pathText tells parts shortly: 1:0-10 2:10-30 ...
func pathText(l []impl.PathPart) string {
	var out []string
	for _, p := range l {
		out = append(out, fmt.Sprintf("%d:%d-%d", p.Call, p.From, p.To))
	}
	return strings.Join(out, " ")
}

// edgesText tells edges shortly: a>b 2/1 30; ...
func edgesText(l []impl.Edge) string {
	var out []string
	for _, e := range l {
		out = append(out, fmt.Sprintf("%s>%s %d/%d %d", e.From, e.To, e.Calls, e.Fails, e.Total))
	}
	return strings.Join(out, "; ")
}

// keptText has an x for each trace that is kept, and a - for each other one.
func keptText(l []bool) string {
	out := ""
	for _, kept := range l {
		out += map[bool]string{true: "x", false: "-"}[kept]
	}
	return out
}

// callChain has n calls, each the kid of the one ahead.
func callChain(n int, from int, to int) impl.Trace {
	x := impl.Trace{Id: 1}
	for i := range n {
		x.Calls = append(x.Calls, impl.Call{Id: i + 1, Parent: i, Service: "s", Name: "n", From: from, To: to})
	}
	return x
}

// callFan has a call from 0 to n times wide, and n - 1 kids side by side from wide on.
func callFan(n int, wide int) impl.Trace {
	x := impl.Trace{Id: 1, Calls: []impl.Call{{Id: 1, Service: "s", Name: "n", To: n * wide}}}
	for i := 1; i < n; i++ {
		x.Calls = append(x.Calls, impl.Call{Id: i + 1, Parent: 1, Service: "s", Name: "n", From: i * wide, To: (i + 1) * wide})
	}
	return x
}

func TestLimitsOfTraces(t *testing.T) {
	if impl.MaxCalls != 100 || impl.MaxTraces != 50 || impl.MaxPolicies != 10 {
		t.Error("the limits")
	}
	for i, kind := range []int{impl.PolicyFail, impl.PolicySlow, impl.PolicyService, impl.PolicyShare, impl.PolicyLimit} {
		if kind != i+1 {
			t.Errorf("the kind %d", kind)
		}
	}
}

// tryTrace asks whether a trace is good, and what is said of it and of lists with it.
func tryTrace(t *testing.T, want bool, x impl.Trace) {
	t.Helper()
	if checkTrace(t, x) != want {
		t.Errorf("%s is not %v", shortly(x), want)
	}
	fine := traceOf("1@a:0-9 2<1@b:3-5!")
	for _, l := range [][]impl.Trace{{x}, {fine, x}, {x, fine}} {
		if got := checkEdges(t, l); !want && len(got) > 0 {
			t.Errorf("%s has edges: %v", shortly(l), got)
		}
		if got := checkKeep(t, []impl.Policy{{Kind: impl.PolicyLimit, Least: 1000}}, l); len(got) > 0 != want {
			t.Errorf("%s is kept: %v", shortly(l), got)
		}
	}
	if !want && len(impl.SelfTimes(x))+len(impl.CriticalPath(x)) > 0 {
		t.Errorf("%s says something", shortly(x))
	}
}

func TestTracesThatAreGood(t *testing.T) {
	tryTrace(t, false, impl.Trace{})
	tryTrace(t, false, impl.Trace{Id: 1})
	tryTrace(t, false, impl.Trace{Id: 1, Calls: []impl.Call{}})
	tryTrace(t, false, impl.Trace{Id: 1, Calls: []impl.Call{{}}})
	for id, want := range map[int]bool{math.MinInt: false, -maxTime: false, -1: false, 0: false, 1: true, 2: true, maxTime + 1: true, math.MaxInt: true} {
		x := traceOf("1:0-9 5<1:2-4")
		x.Id = id
		tryTrace(t, want, x)
	}
	for n, want := range map[int]bool{0: false, 1: true, 2: true, 99: true, 100: true, 101: false, 200: false, 1000: false} {
		tryTrace(t, want, callChain(n, 3, 8))
		if n > 0 {
			tryTrace(t, want, callFan(n, 2))
		}
	}
}

// tryCall asks whether a trace is good of which one call is changed.
func tryCall(t *testing.T, want bool, number int, change func(c *impl.Call)) {
	t.Helper()
	x := traceOf("3@a:10-50 5<3@b:10-30 8<5@c:20-50 9<3@d:20-50!")
	change(&x.Calls[number])
	tryTrace(t, want, x)
}

func TestIdsOfCalls(t *testing.T) {
	for number, near := range [][2]int{{1, 4}, {4, 7}, {6, 8}, {9, math.MaxInt}} {
		for id := -1; id <= 12; id++ {
			tryCall(t, isWithin(id, near[0], near[1]) && (number > 1 || id == []int{3, 5}[number]), number, func(c *impl.Call) { c.Id = id })
		}
		for _, id := range []int{math.MinInt, -3, -5, -8, -9} {
			tryCall(t, false, number, func(c *impl.Call) { c.Id = id })
		}
		tryCall(t, number == 3, number, func(c *impl.Call) { c.Id = math.MaxInt })
	}
	for _, text := range []string{"1:0-9", "9:0-9", "1:0-9 2<1:0-9", "1:0-9 9<1:0-9", "1:0-9 2<1:0-9 3<2:0-9 4<1:0-9 5<3:0-9"} {
		tryTrace(t, true, traceOf(text))
	}
	for _, text := range []string{"0:0-9", "0:0-9 1:0-9", "0:0-9 1<0:0-9", "1:0-9 1<1:0-9", "2:0-9 1<2:0-9", "1:0-9 3<1:0-9 2<1:0-9", "1:0-9 2<1:0-9 2<1:0-9", "1:0-9 2<1:0-9 3<2:0-9 3<2:0-9", "1:0-9 2<1:0-9 1:0-9"} {
		tryTrace(t, false, traceOf(text))
	}
	rootless := traceOf("1:0-9")
	rootless.Calls[0].Id = math.MinInt
	tryTrace(t, false, rootless)
}

func TestParentsOfCalls(t *testing.T) {
	for _, parent := range []int{math.MinInt, -9, -8, -5, -3, -1, 0, 1, 2, 3, 4, 5, 6, 7, 8, 9, 10, math.MaxInt} {
		tryCall(t, parent == 0, 0, func(c *impl.Call) { c.Parent = parent })
		tryCall(t, parent == 3, 1, func(c *impl.Call) { c.Parent = parent })
		tryCall(t, parent == 3 || parent == 5, 2, func(c *impl.Call) { c.Parent = parent })
		tryCall(t, parent == 3 || parent == 5 || parent == 8, 3, func(c *impl.Call) { c.Parent = parent })
	}
	for text, want := range map[string]bool{
		"5:0-9": true, "5<5:0-9": false, "5<4:0-9": false, "5<6:0-9 6<5:0-9": false, "5<6:0-9 6:0-9": false, "5:0-9 6:0-9": false, "5:0-9 6<6:0-9": false, "5:0-9 6<7:0-9 7<5:0-9": false, "5:0-9 6<4:0-9": false, "5:0-9 6<5:0-9 7<6:0-9": true, "5:0-9 6<5:0-9 7:0-9": false,
	} {
		tryTrace(t, want, traceOf(text))
	}
}

func TestNamesOfCalls(t *testing.T) {
	for name, want := range map[string]bool{"_": true, "_name": true, "A9": true, "sum": true, "a": true, strings.Repeat("n", 40): true, "": false, "9": false, "9a": false, "a b": false, "a-": false, "é": false, "a\n": false, "a\x00": false, strings.Repeat("n", 41): false} {
		for number := range 4 {
			tryCall(t, want, number, func(c *impl.Call) { c.Service = name })
			tryCall(t, want, number, func(c *impl.Call) { c.Name = name })
			tryCall(t, want, number, func(c *impl.Call) { c.Service, c.Name = name, name })
		}
	}
	for b := range 256 {
		s := string([]byte{byte(b)})
		want := isNameModel("a" + s)
		tryCall(t, want, 1, func(c *impl.Call) { c.Service = "a" + s })
		tryCall(t, want, 1, func(c *impl.Call) { c.Name = "a" + s })
	}
}

func TestTimesOfCalls(t *testing.T) {
	for _, c := range []struct {
		from, to int
		want     bool
	}{
		{0, 0, true}, {0, 1, true}, {1, 0, false}, {0, maxTime, true}, {maxTime, maxTime, true}, {maxTime - 1, maxTime, true}, {maxTime, maxTime - 1, false}, {0, maxTime + 1, false}, {maxTime, maxTime + 1, false}, {maxTime + 1, maxTime + 1, false}, {maxTime + 1, maxTime, false},
		{-1, 5, false}, {-1, -1, false}, {-1, 0, false}, {0, -1, false}, {-5, -1, false}, {0, math.MaxInt, false}, {math.MaxInt, math.MaxInt, false}, {math.MinInt, math.MaxInt, false}, {math.MinInt, math.MinInt, false}, {math.MaxInt, math.MinInt, false}, {math.MinInt, 5, false}, {5, math.MinInt, false}, {math.MaxInt, 5, false}, {5, 5, true}, {6, 5, false},
	} {
		alone := impl.Trace{Id: 1, Calls: []impl.Call{{Id: 1, Service: "s", Name: "n", From: c.from, To: c.to}}}
		tryTrace(t, c.want, alone)
		kid := traceOf("1:0-9 2<1:0-9 3<2:0-0")
		kid.Calls[1].From, kid.Calls[1].To = c.from, c.to
		kid.Calls[2].From, kid.Calls[2].To = maxTime, maxTime
		tryTrace(t, c.want, kid)
	}
	// Kids begin at or behind their parent's From; where they end is all the same.
	for from := range 60 {
		for _, to := range []int{from - 1, from, from + 1, 50, 51} {
			tryCall(t, to >= from && from >= 10, 3, func(c *impl.Call) { c.From, c.To = from, to })
			tryCall(t, to >= from && from >= 10, 2, func(c *impl.Call) { c.From, c.To = from, to })
			tryCall(t, to >= from && isWithin(from, 10, 20), 1, func(c *impl.Call) { c.From, c.To = from, to })
			tryCall(t, to >= from && from <= 10, 0, func(c *impl.Call) { c.From, c.To = from, to })
		}
	}
	for text, want := range map[string]bool{
		"1:5-9 2<1:4-9": false, "1:5-9 2<1:5-9": true, "1:5-9 2<1:6-9": true, "1:5-9 2<1:6-10": true, "1:5-9 2<1:9-9": true, "1:5-9 2<1:9-10": true, "1:5-9 2<1:10-10": true, "1:5-9 2<1:10-90": true, "1:5-9 2<1:4-4": false, "1:5-5 2<1:5-5": true, "1:5-5 2<1:4-5": false, "1:5-5 2<1:5-6": true, "1:5-5 2<1:6-6": true,
		"1:5-9 2<1:7-8 3<2:6-8": false, "1:5-9 2<1:7-8 3<2:7-12": true, "1:5-9 2<1:7-8 3<1:6-8": true, "1:5-9 2<1:7-8 3<1:4-8": false, "1:5-9 2<1:7-8 3<2:6-6": false,
	} {
		tryTrace(t, want, traceOf(text))
	}
}

func TestTimesByThemselves(t *testing.T) {
	for _, c := range []struct {
		text string
		want []int
	}{
		{"1:0-100", []int{100}}, {"1:7-7", []int{0}}, {"1:7-8", []int{1}}, {"1:0-0", []int{0}},
		{"1:0-100 2<1:10-20", []int{90, 10}},
		{"1:0-100 2<1:10-20 3<1:20-30", []int{80, 10, 10}}, {"1:0-100 2<1:20-30 3<1:10-20", []int{80, 10, 10}},
		{"1:0-100 2<1:10-20 3<1:40-50", []int{80, 10, 10}}, {"1:0-100 2<1:40-50 3<1:10-20", []int{80, 10, 10}},
		{"1:0-100 2<1:10-30 3<1:20-40", []int{70, 20, 20}}, {"1:0-100 2<1:20-40 3<1:10-30", []int{70, 20, 20}},
		{"1:0-100 2<1:10-90 3<1:20-40", []int{20, 80, 20}}, {"1:0-100 2<1:20-40 3<1:10-90", []int{20, 20, 80}},
		{"1:0-100 2<1:10-90 3<1:20-40 4<1:50-95", []int{15, 80, 20, 45}}, {"1:0-100 2<1:10-90 3<1:20-40 4<1:92-95", []int{17, 80, 20, 3}},
		{"1:0-100 2<1:10-40 3<1:10-40", []int{70, 30, 30}}, {"1:0-100 2<1:10-40 3<1:10-40 4<1:10-40", []int{70, 30, 30, 30}}, {"1:0-100 2<1:10-40 3<1:10-20 4<1:10-60", []int{50, 30, 10, 50}}, {"1:0-100 2<1:30-40 3<1:10-40 4<1:20-40", []int{70, 10, 30, 20}},
		{"1:0-100 2<1:0-30", []int{70, 30}}, {"1:0-100 2<1:70-100", []int{70, 30}}, {"1:0-100 2<1:0-100", []int{0, 100}}, {"1:0-100 2<1:0-50 3<1:50-100", []int{0, 50, 50}}, {"1:0-100 2<1:0-49 3<1:51-100", []int{2, 49, 49}},
		{"1:0-100 2<1:70-130", []int{70, 60}}, {"1:0-100 2<1:0-130", []int{0, 130}}, {"1:0-100 2<1:99-101", []int{99, 2}}, {"1:0-100 2<1:70-130 3<1:80-90", []int{70, 60, 10}}, {"1:0-100 2<1:80-90 3<1:70-130", []int{70, 10, 60}}, {"1:0-100 2<1:70-130 3<1:80-150", []int{70, 60, 70}},
		{"1:0-100 2<1:100-130", []int{100, 30}}, {"1:0-100 2<1:110-130", []int{100, 20}}, {"1:0-100 2<1:110-130 3<1:10-20", []int{90, 20, 10}}, {"1:0-100 2<1:10-20 3<1:110-130", []int{90, 10, 20}}, {"1:0-100 2<1:90-120 3<1:110-130", []int{90, 30, 20}}, {"1:0-100 2<1:110-120 3<1:130-140 4<1:100-101", []int{100, 10, 10, 1}},
		{"1:0-100 2<1:50-50", []int{100, 0}}, {"1:0-100 2<1:0-0", []int{100, 0}}, {"1:0-100 2<1:100-100", []int{100, 0}}, {"1:0-100 2<1:120-120", []int{100, 0}}, {"1:0-100 2<1:50-50 3<1:40-60", []int{80, 0, 20}}, {"1:0-100 2<1:40-60 3<1:50-50", []int{80, 20, 0}}, {"1:0-100 2<1:50-50 3<1:50-60", []int{90, 0, 10}}, {"1:0-100 2<1:50-50 3<1:50-50", []int{100, 0, 0}}, {"1:0-100 2<1:150-150 3<1:10-20", []int{90, 0, 10}},
		{"1:0-100 2<1:10-60 3<2:20-40", []int{50, 30, 20}}, {"1:0-100 2<1:10-60 3<2:20-90", []int{50, 10, 70}}, {"1:0-100 2<1:10-60 3<2:70-90", []int{50, 50, 20}}, {"1:0-100 2<1:10-60 3<2:10-60 4<3:10-60", []int{50, 0, 0, 50}}, {"1:0-100 2<1:10-60 3<2:20-90 4<1:80-85 5<3:20-30", []int{45, 10, 60, 5, 10}},
		{"1:7-7 2<1:7-7", []int{0, 0}}, {"1:7-7 2<1:7-9", []int{0, 2}}, {"1:7-7 2<1:9-9", []int{0, 0}}, {"1:7-7 2<1:9-12 3<2:10-20", []int{0, 1, 10}},
		{"1:0-1000000000000", []int{maxTime}}, {"1:0-1000000000000 2<1:1-999999999999", []int{2, maxTime - 2}}, {"1:0-1000000000000 2<1:1000000000000-1000000000000", []int{maxTime, 0}}, {"1:999999999999-1000000000000 2<1:999999999999-1000000000000", []int{0, 1}}, {"1:5-5 2<1:5-1000000000000 3<2:6-1000000000000", []int{0, 1, maxTime - 6}},
	} {
		x := traceOf(c.text)
		tryTrace(t, true, x)
		if got := impl.SelfTimes(x); !slices.Equal(got, c.want) {
			t.Errorf("%s: %v, not %v", c.text, got, c.want)
		}
	}
	for _, wide := range []int{0, 1, maxTime / 100} {
		for _, self := range impl.SelfTimes(callFan(100, wide)) {
			if self != wide {
				t.Errorf("%d wide: %d", wide, self)
			}
		}
	}
}

func TestPathsThatAreCritical(t *testing.T) {
	for text, want := range map[string]string{
		// A call without kids.
		"1:0-100": "1:0-100", "5:7-8": "5:7-8", "1:0-1000000000000": "1:0-1000000000000",
		// One kid.
		"1:0-100 2<1:10-20": "1:0-10 2:10-20 1:20-100", "1:0-100 2<1:0-20": "2:0-20 1:20-100", "1:0-100 2<1:20-100": "1:0-20 2:20-100", "1:0-100 2<1:0-100": "2:0-100", "1:5-100 2<1:5-6": "2:5-6 1:6-100",
		// Kids side by side, with something between and with nothing.
		"1:0-100 2<1:10-20 3<1:40-50": "1:0-10 2:10-20 1:20-40 3:40-50 1:50-100", "1:0-100 2<1:40-50 3<1:10-20": "1:0-10 3:10-20 1:20-40 2:40-50 1:50-100", "1:0-100 2<1:10-20 3<1:20-30": "1:0-10 2:10-20 3:20-30 1:30-100", "1:0-100 2<1:0-50 3<1:50-100": "2:0-50 3:50-100",
		// Kids one over the other: the one that ends last, and from its From on the other one.
		"1:0-100 2<1:10-40 3<1:30-60": "1:0-10 2:10-30 3:30-60 1:60-100", "1:0-100 2<1:30-60 3<1:10-40": "1:0-10 3:10-30 2:30-60 1:60-100",
		// One in the other: the inner one is never come to, as it ends earlier and begins later.
		"1:0-100 2<1:10-60 3<1:20-40": "1:0-10 2:10-60 1:60-100", "1:0-100 2<1:20-40 3<1:10-60": "1:0-10 3:10-60 1:60-100", "1:0-100 2<1:10-60 3<1:10-40": "1:0-10 2:10-60 1:60-100",
		// Kids that end alike.
		"1:0-100 2<1:10-60 3<1:20-60": "1:0-10 2:10-20 3:20-60 1:60-100", "1:0-100 2<1:20-60 3<1:10-60": "1:0-10 3:10-60 1:60-100", "1:0-100 2<1:10-60 3<1:10-60": "1:0-10 3:10-60 1:60-100", "1:0-100 2<1:10-60 3<1:30-60 4<1:20-60": "1:0-10 2:10-20 4:20-60 1:60-100", "1:0-100 2<1:10-60 3<1:20-60 9<1:30-60 10<1:35-50": "1:0-10 2:10-20 3:20-30 9:30-60 1:60-100",
		// Kids that end with their parent.
		"1:0-100 2<1:30-100 3<1:40-100": "1:0-30 2:30-40 3:40-100", "1:0-100 2<1:40-100 3<1:30-100": "1:0-30 3:30-100",
		// Kids that end behind it, so at the moment: what lies behind it is all the same.
		"1:0-100 2<1:30-120": "1:0-30 2:30-100", "1:0-100 2<1:30-101": "1:0-30 2:30-100", "1:0-100 2<1:0-500": "2:0-100", "1:0-100 2<1:99-101": "1:0-99 2:99-100",
		"1:0-100 2<1:30-120 3<1:40-110": "1:0-30 2:30-40 3:40-100", "1:0-100 2<1:40-110 3<1:30-120": "1:0-30 3:30-100", "1:0-100 2<1:30-200 3<1:40-100": "1:0-30 2:30-40 3:40-100", "1:0-100 2<1:40-200 3<1:30-100": "1:0-30 3:30-100", "1:0-100 2<1:30-120 3<1:40-99": "1:0-30 2:30-100",
		// Kids that end behind the moment at which another one begins.
		"1:0-100 2<1:10-90 3<1:50-95": "1:0-10 2:10-50 3:50-95 1:95-100", "1:0-100 2<1:10-80 3<1:20-70 4<1:50-95": "1:0-10 2:10-20 3:20-50 4:50-95 1:95-100", "1:0-100 2<1:20-70 3<1:10-80 4<1:50-95": "1:0-10 3:10-50 4:50-95 1:95-100",
		// Kids that end just at the moment at which another one begins.
		"1:0-100 2<1:10-50 3<1:50-95": "1:0-10 2:10-50 3:50-95 1:95-100", "1:0-100 2<1:10-50 3<1:20-60 4<1:50-95": "1:0-10 2:10-20 3:20-50 4:50-95 1:95-100", "1:0-100 2<1:20-60 3<1:10-50 4<1:50-95": "1:0-10 3:10-50 4:50-95 1:95-100",
		// Kids that begin at the moment, or behind it.
		"1:0-100 2<1:100-100": "1:0-100", "1:0-100 2<1:100-130": "1:0-100", "1:0-100 2<1:110-130": "1:0-100", "1:0-100 2<1:110-130 3<1:10-20": "1:0-10 3:10-20 1:20-100", "1:0-100 2<1:50-70 3<1:50-60": "1:0-50 2:50-70 1:70-100", "1:0-100 2<1:50-60 3<1:50-70": "1:0-50 3:50-70 1:70-100",
		// Kids that are empty.
		"1:0-100 2<1:50-50": "1:0-100", "1:0-100 2<1:0-0": "1:0-100", "1:0-100 2<1:50-50 3<1:40-60": "1:0-40 3:40-60 1:60-100", "1:0-100 2<1:40-60 3<1:60-60": "1:0-40 2:40-60 1:60-100", "1:0-100 2<1:40-60 3<1:40-40": "1:0-40 2:40-60 1:60-100", "1:0-100 2<1:40-60 3<1:50-50 4<3:50-55": "1:0-40 2:40-60 1:60-100", "1:0-100 2<1:50-50 3<2:50-80": "1:0-100",
		// Kids of kids.
		"1:0-100 2<1:10-60 3<2:20-40": "1:0-10 2:10-20 3:20-40 2:40-60 1:60-100", "1:0-100 2<1:10-60 3<2:10-60": "1:0-10 3:10-60 1:60-100", "1:0-100 2<1:10-60 3<2:10-60 4<3:20-30": "1:0-10 3:10-20 4:20-30 3:30-60 1:60-100",
		"1:0-100 2<1:10-60 3<1:60-90 4<3:70-80 5<2:20-30": "1:0-10 2:10-20 5:20-30 2:30-60 3:60-70 4:70-80 3:80-90 1:90-100",
		// Kids of kids that end behind their parent, and behind the moment.
		"1:0-100 2<1:10-60 3<2:20-80": "1:0-10 2:10-20 3:20-60 1:60-100", "1:0-100 2<1:10-60 3<2:20-180": "1:0-10 2:10-20 3:20-60 1:60-100", "1:0-100 2<1:10-60 3<2:70-80": "1:0-10 2:10-60 1:60-100", "1:0-100 2<1:10-60 3<2:60-80": "1:0-10 2:10-60 1:60-100",
		"1:0-100 2<1:10-90 3<1:50-95 4<2:20-70 5<2:60-65": "1:0-10 2:10-20 4:20-50 3:50-95 1:95-100", "1:0-100 2<1:10-90 3<1:50-95 4<2:20-50 5<2:30-70": "1:0-10 2:10-20 4:20-30 5:30-50 3:50-95 1:95-100", "1:0-100 2<1:30-120 3<2:40-110 4<3:50-105": "1:0-30 2:30-40 3:40-50 4:50-100", "1:0-100 2<1:30-120 3<2:105-110": "1:0-30 2:30-100",
		// A first call that is empty.
		"1:7-7": "", "1:7-7 2<1:7-7": "", "1:7-7 2<1:7-90": "", "1:0-0 2<1:0-90 3<2:0-80": "", "1:7-7 2<1:9-12": "",
		// The greatest times.
		"1:0-1000000000000 2<1:1-999999999999": "1:0-1 2:1-999999999999 1:999999999999-1000000000000", "1:999999999999-1000000000000 2<1:999999999999-1000000000000": "2:999999999999-1000000000000", "1:0-1 2<1:0-1000000000000 3<2:1-1000000000000": "2:0-1",
	} {
		x := traceOf(text)
		tryTrace(t, true, x)
		if got := pathText(impl.CriticalPath(x)); got != want {
			t.Errorf("%s: %q, not %q", text, got, want)
		}
	}
}

func TestPathsOfManyCalls(t *testing.T) {
	chain := callChain(100, 0, 5)
	if got := pathText(impl.CriticalPath(chain)); got != "100:0-5" {
		t.Errorf("a chain of calls that are alike: %s", got)
	}
	// Each call begins behind its parent, and ends ahead of it, with it and behind it.
	for _, ends := range []int{-1, 0, 1} {
		x := callChain(100, 0, 0)
		for i := range x.Calls {
			x.Calls[i].From, x.Calls[i].To = i, 300+ends*i
		}
		tryTrace(t, true, x)
		path := impl.CriticalPath(x)
		if want := map[int]int{-1: 199, 0: 100, 1: 100}[ends]; len(path) != want || path[99] != (impl.PathPart{Call: 100, From: 99, To: 300 + min(ends, 0)*99}) {
			t.Errorf("ends %d: %s", ends, pathText(path))
		}
	}
	fan := callFan(100, 3)
	path := impl.CriticalPath(fan)
	for i, p := range path {
		if p != (impl.PathPart{Call: i + 1, From: 3 * i, To: 3*i + 3}) {
			t.Errorf("the part %d of a fan: %v", i, p)
		}
	}
	if len(path) != 100 {
		t.Errorf("a fan: %s", pathText(path))
	}
	if got := impl.CriticalPath(callFan(100, 0)); len(got) != 0 {
		t.Errorf("a fan of nothing: %v", got)
	}
	comb := callFan(100, 3)
	for i := 1; i < 100; i++ {
		comb.Calls[i].To--
	}
	if got := impl.CriticalPath(comb); len(got) != 199 {
		t.Errorf("a comb: %s", pathText(got))
	}
	for _, x := range []impl.Trace{chain, fan, comb} {
		tryTrace(t, true, x)
	}
}

func TestEdgesOfServices(t *testing.T) {
	for _, c := range []struct {
		want   string
		traces []string
	}{
		{"", nil},
		{"", []string{"1@a:0-9"}},
		{"", []string{"1@a:0-9!", "1@b:0-9"}},
		{"a>b 1/0 4", []string{"1@a:0-9 2<1@b:3-7"}},
		{"a>b 1/1 4", []string{"1@a:0-9 2<1@b:3-7!"}},
		{"a>b 1/0 4", []string{"1@a:0-9! 2<1@b:3-7"}},
		{"a>b 1/0 0", []string{"1@a:0-9 2<1@b:3-3"}},
		{"a>b 1/0 90", []string{"1@a:0-9 2<1@b:10-100"}},
		{"a>a 1/0 4", []string{"1@a:0-9 2<1@a:3-7"}},
		{"a>a 3/1 14", []string{"1@a:0-9 2<1@a:3-7 3<2@a:4-9! 4<1@a:0-5"}},
		{"a>b 2/1 6", []string{"1@a:0-9 2<1@b:3-7 3<1@b:4-6!"}},
		{"a>b 1/0 4; b>a 1/0 2", []string{"1@a:0-9 2<1@b:3-7 3<2@a:4-6"}},
		{"a>b 1/0 4; a>c 1/1 1; b>c 1/0 2", []string{"1@a:0-9 2<1@b:3-7 3<2@c:4-6 4<1@c:8-9!"}},
		{"A>a 1/0 1; _>a 1/0 2; a>A 1/0 3; a>_ 1/0 4; a>a 1/0 5; a>aa 1/0 6; aa>a 1/0 7; b>a 1/0 8", []string{"1@b:0-9 2<1@a:0-8", "1@aa:0-9 2<1@a:0-7 3<2@aa:0-6", "1@a:0-9 2<1@a:0-5 3<1@_:0-4 4<1@A:0-3", "1@_:0-9 2<1@a:0-2", "1@A:0-9 2<1@a:0-1"}},
		{"a>b 3/2 16", []string{"1@a:0-9 2<1@b:3-7", "1@a:0-9 2<1@b:3-7! 3<1@b:0-8!"}},
		{"a>b 2/2 8", []string{"1@a:0-9 2<1@b:3-7!", "1@a:0-9 2<1@b:3-7!"}},
		{"a>b 2/0 8; b>a 1/0 1; b>b 1/1 1", []string{"1@a:0-9 2<1@b:3-7 3<2@b:5-6!", "5@a:0-9 7<5@b:3-7 9<7@a:5-6"}},
		{"a>a_b 1/0 1; a_a>b 1/0 2", []string{"1@a_a:0-9 2<1@b:0-2", "1@a:0-9 2<1@a_b:0-1"}},
	} {
		var l []impl.Trace
		for _, text := range c.traces {
			l = append(l, traceOf(text))
		}
		if got := edgesText(checkEdges(t, l)); got != c.want {
			t.Errorf("%v: %s, not %s", c.traces, got, c.want)
		}
		slices.Reverse(l)
		if got := edgesText(checkEdges(t, l)); got != c.want {
			t.Errorf("%v, the other way round: %s", c.traces, got)
		}
	}
}

func TestEdgesAtTheirLimits(t *testing.T) {
	long := callChain(100, 0, maxTime)
	for n, want := range map[int]int{0: 0, 1: 99, 2: 198, 49: 49 * 99, 50: 50 * 99, 51: 0, 100: 0} {
		l := slices.Repeat([]impl.Trace{long}, n)
		got := checkEdges(t, l)
		// So long a sum is still far from where an int wraps.
		if want == 0 && len(got) > 0 || want > 0 && (len(got) != 1 || got[0] != impl.Edge{From: "s", To: "s", Calls: want, Total: want * maxTime}) {
			t.Errorf("%d traces: %v", n, got)
		}
		for at := range min(n, 50) {
			bad := slices.Clone(l)
			bad[at] = impl.Trace{Id: 1}
			if got := checkEdges(t, bad[:min(n, 50)]); len(got) > 0 {
				t.Errorf("%d traces, the one at %d not good: %v", n, at, got)
			}
		}
	}
	// As many edges as there can be, each of one kid.
	var l []impl.Trace
	for i := range 50 {
		x := callFan(100, 1)
		for j := range x.Calls {
			x.Calls[j].Service = fmt.Sprintf("s%d_%d", i*(1-min(j, 1)), j)
		}
		l = append(l, x)
	}
	if got := checkEdges(t, l); len(got) != 50*99 {
		t.Errorf("%d edges", len(got))
	}
}

func tryPolicies(t *testing.T, want bool, l ...impl.Policy) {
	t.Helper()
	traces := []impl.Trace{traceOf("1@a:0-9 2<1@b:3-5!"), traceOf("1@a:0-9")}
	got := checkKeep(t, l, traces)
	if impl.GoodPolicies(l) != want || len(got) > 0 != want {
		t.Errorf("%v are not %v", l, want)
	}
}

func TestPoliciesThatAreGood(t *testing.T) {
	each := []impl.Policy{{}, {Kind: impl.PolicyFail}, {Kind: impl.PolicySlow}, {Kind: impl.PolicyService, Service: "a"}, {Kind: impl.PolicyShare, Least: 1}, {Kind: impl.PolicyLimit}}
	tryPolicies(t, true)
	tryPolicies(t, true, each[1:]...)
	try := func(want bool, p impl.Policy) {
		t.Helper()
		tryPolicies(t, want, p)
		tryPolicies(t, want, each[1], p)
		tryPolicies(t, want, p, each[5], each[2])
	}
	for kind := 1; kind <= 5; kind++ {
		try(true, each[kind])
		for n, want := range map[int]bool{0: true, 1: true, 9: true, 10: true, 11: false, 50: false} {
			tryPolicies(t, want, slices.Repeat(each[kind:kind+1], n)...)
		}
		for _, other := range []int{0, -1, 6, 7, math.MinInt, math.MaxInt} {
			p := each[kind]
			p.Kind = other
			try(false, p)
		}
		for service, isName := range map[string]bool{"": false, "a": true, "_": true, "A9": true, strings.Repeat("n", 40): true, strings.Repeat("n", 41): false, "9": false, "a b": false, "a-": false, "é": false, "a\n": false} {
			p := each[kind]
			p.Service = service
			try(kind == impl.PolicyService && isName || kind != impl.PolicyService && service == "", p)
		}
		for _, least := range []int{math.MinInt, -maxTime, -1, 0, 1, 2, 999, 1000, 1001, maxTime - 1, maxTime, maxTime + 1, math.MaxInt} {
			p := each[kind]
			p.Least = least
			most := []int{0, 0, maxTime, 0, 1000, 1000}[kind]
			try(isWithin(least, []int{0, 0, 0, 0, 1, 0}[kind], most), p)
		}
	}
	for _, kind := range []int{0, -1, 6, math.MinInt, math.MaxInt} {
		try(false, impl.Policy{Kind: kind})
		try(false, impl.Policy{Kind: kind, Least: 1})
		try(false, impl.Policy{Kind: kind, Service: "a"})
	}
	for at := range 10 {
		l := slices.Repeat(each[1:2], 10)
		l[at] = each[0]
		tryPolicies(t, false, l...)
	}
}

// policyOf reads a policy that is told shortly: fail, slow 5, service a, share 5, limit 5.
func policyOf(text string) impl.Policy {
	kind, told, _ := strings.Cut(text, " ")
	p := impl.Policy{Kind: 1 + slices.Index([]string{"fail", "slow", "service", "share", "limit"}, kind)}
	if p.Kind == impl.PolicyService {
		p.Service = told
		return p
	}
	if n, err := strconv.Atoi(told); err == nil {
		p.Least = n
	}
	return p
}

func policiesOf(text string) []impl.Policy {
	var l []impl.Policy
	for _, told := range strings.Split(text, ",") {
		if told != "" {
			l = append(l, policyOf(told))
		}
	}
	return l
}

func TestTracesThatAreKept(t *testing.T) {
	ok, slow, failed := traceOf("1@a:0-9 2<1@b:3-5"), traceOf("1@a:5-105 2<1@c:5-200"), traceOf("1@a:0-9 2<1@b:3-5! 3<2@c:3-5")
	first := traceOf("1@b:0-9! 2<1@d:0-90")
	all := []impl.Trace{ok, slow, failed, first, ok, failed}
	for text, want := range map[string]string{
		"": "------", "fail": "--xx-x",
		"slow 0": "xxxxxx", "slow 9": "xxxxxx", "slow 10": "-x----", "slow 99": "-x----", "slow 100": "-x----", "slow 101": "------", "slow 1000000000000": "------",
		"service a": "xxx-xx", "service b": "x-xxxx", "service c": "-xx--x", "service d": "---x--", "service e": "------", "service A": "------", "service n": "------",
		"share 1000": "xxxxxx",
		"limit 0":    "------", "limit 1": "x-----", "limit 3": "xxx---", "limit 5": "xxxxx-", "limit 6": "xxxxxx", "limit 7": "xxxxxx", "limit 1000": "xxxxxx",
		// Those that a policy ahead is for never come to the limit.
		"fail,limit 1": "x-xx-x", "fail,limit 2": "xxxx-x", "fail,limit 3": "xxxxxx", "fail,limit 0": "--xx-x", "slow 100,limit 1": "xx----", "service b,limit 1": "xxxxxx", "service c,limit 1": "xxx--x", "service c,limit 2": "xxxx-x",
		// What comes to the limit goes no further, also where it is not kept.
		"limit 1,fail": "x-----", "limit 0,fail": "------", "limit 2,slow 0": "xx----", "limit 0,share 1000": "------", "limit 1,limit 1000": "x-----", "limit 1000,limit 0": "xxxxxx", "limit 2,limit 3": "xx----", "limit 0,limit 0": "------",
		"fail,limit 1,limit 1": "x-xx-x", "limit 1,fail,limit 5": "x-----",
		"fail,slow 100": "-xxx-x", "slow 100,fail": "-xxx-x", "service d,fail,limit 0": "--xx-x", "service e,slow 101": "------", "fail,fail": "--xx-x",
	} {
		if got := keptText(checkKeep(t, policiesOf(text), all)); got != want {
			t.Errorf("%s: %s, not %s", text, got, want)
		}
	}
	for _, text := range []string{"", "fail", "limit 5"} {
		if got := checkKeep(t, policiesOf(text), nil); len(got) != 0 {
			t.Errorf("no traces: %v", got)
		}
	}
	for _, l := range [][]impl.Policy{{{}}, {{Kind: 1}, {Kind: 6}}, slices.Repeat(policiesOf("fail"), 11)} {
		if got := checkKeep(t, l, all); len(got) != 0 {
			t.Errorf("%v: %v", l, got)
		}
	}
	for at := range all {
		bad := slices.Clone(all)
		bad[at] = traceOf("1:5-9 2<1:4-9")
		if got := checkKeep(t, policiesOf("fail,limit 3"), bad); len(got) != 0 {
			t.Errorf("the trace at %d is not good: %v", at, got)
		}
	}
}

func TestKeptAtTheirLimits(t *testing.T) {
	x := traceOf("1@a:0-9")
	for n, want := range map[int]int{0: 0, 1: 1, 49: 49, 50: 50, 51: 0, 100: 0} {
		for _, text := range []string{"limit 1000", "slow 9", "fail,service a", "fail,fail,fail,fail,fail,fail,fail,fail,fail,limit 50"} {
			if got := keptText(checkKeep(t, policiesOf(text), slices.Repeat([]impl.Trace{x}, n))); got != strings.Repeat("x", want) {
				t.Errorf("%d traces by %s: %s", n, text, got)
			}
		}
		for least := range 52 {
			l := []impl.Policy{{Kind: impl.PolicyFail}, {Kind: impl.PolicyLimit, Least: least}}
			kept := min(least, want)
			if got := keptText(checkKeep(t, l, slices.Repeat([]impl.Trace{x}, n))); got != strings.Repeat("x", kept)+strings.Repeat("-", want-kept) {
				t.Errorf("%d of %d traces: %s", least, n, got)
			}
		}
	}
	for from, to := range map[int]int{0: maxTime, 1: maxTime, maxTime - 1: maxTime, maxTime: maxTime} {
		x := impl.Trace{Id: 1, Calls: []impl.Call{{Id: 1, Service: "s", Name: "n", From: from, To: to}}}
		for d, want := range map[int]string{-1: "x", 0: "x", 1: "-"} {
			if least := to - from + d; isWithin(least, 0, maxTime) {
				if got := keptText(checkKeep(t, []impl.Policy{{Kind: impl.PolicySlow, Least: least}}, []impl.Trace{x})); got != want {
					t.Errorf("%d to %d by %d: %s", from, to, least, got)
				}
			}
		}
	}
}

func TestTracesKeptByShares(t *testing.T) {
	seen := map[int]int{}
	for _, id := range []int{1, 2, 7, 9, 10, 11, 99, 100, 123456789, maxTime, math.MaxInt - 1, math.MaxInt} {
		x := traceOf("1@a:0-9")
		x.Id = id
		share := shareOf(x)
		seen[share]++
		for least := 1; least <= 1000; least++ {
			want := map[bool]string{true: "x", false: "-"}[share < least]
			if got := keptText(checkKeep(t, []impl.Policy{{Kind: impl.PolicyShare, Least: least}}, []impl.Trace{x})); got != want {
				t.Fatalf("Id %d, share %d, Least %d: %s", id, share, least, got)
			}
		}
		if share != impl.Mix([]byte(strconv.Itoa(id)))%1000 {
			t.Errorf("the share of %d: %d", id, share)
		}
	}
	if len(seen) < 10 {
		t.Errorf("the shares: %v", seen)
	}
	// A share of all Ids is kept.
	kept := 0
	for from := 1; from <= 20000; from += 50 {
		var l []impl.Trace
		for id := from; id < from+50; id++ {
			l = append(l, impl.Trace{Id: id, Calls: traceOf("1@a:0-9").Calls})
		}
		kept += strings.Count(keptText(impl.KeepTraces(policiesOf("share 250"), l)), "x")
	}
	if !isWithin(kept, 4500, 5500) {
		t.Errorf("of 20000 a quarter are %d", kept)
	}
}

type traceAsker struct {
	evalAsker
}

// trace is a good one, with many that begin and end alike.
func (a traceAsker) trace() impl.Trace {
	most := oneOf(a.Rand, 1, 6, 12, 30, 100)
	long := oneOf(a.Rand, 3, 12, 40, 100, 400)
	x := impl.Trace{Id: 1 + a.Intn(5000)}
	id, shift := 0, oneOf(a.Rand, 0, 0, maxTime-2*long)
	for i := range 1 + a.Intn(most) {
		id += 1 + a.Intn(3)
		c := impl.Call{Id: id, Service: oneOf(a.Rand, "a", "b", "b", "c"), Name: oneOf(a.Rand, "n", "m"), Fail: likely(a.Rand, 9)}
		if i == 0 {
			c.From = a.Intn(4)
		} else {
			parent := x.Calls[oneOf(a.Rand, 0, 0, i-1, a.Intn(i))]
			c.Parent, c.From = parent.Id, parent.From-shift+a.Intn(max(1, min(long, parent.To-parent.From+2)))
		}
		c.From = min(c.From, 2*long)
		c.To = min(c.From+oneOf(a.Rand, 0, a.Intn(4), a.Intn(long), a.Intn(long)), 2*long)
		if i == 0 && !likely(a.Rand, 9) {
			c.To = long + a.Intn(long)
		}
		c.From, c.To = c.From+shift, c.To+shift
		x.Calls = append(x.Calls, c)
	}
	return x
}

func (a traceAsker) traces() []impl.Trace {
	var l []impl.Trace
	for range a.Intn(8) {
		l = append(l, a.trace())
	}
	return l
}

func (a traceAsker) policies() []impl.Policy {
	var l []impl.Policy
	for range a.Intn(5) {
		l = append(l, oneOf(a.Rand, impl.Policy{Kind: 1}, impl.Policy{Kind: 2, Least: a.Intn(80)}, impl.Policy{Kind: 3, Service: oneOf(a.Rand, "a", "b", "c", "d")}, impl.Policy{Kind: 4, Least: 1 + a.Intn(1000)}, impl.Policy{Kind: 5, Least: a.Intn(5)}))
	}
	return l
}

// Promise 23.
func TestTracesAtRandom(t *testing.T) {
	rich, behind, tries := 0, 0, 20000
	for seed := range tries {
		a := traceAsker{newEvalAsker(int64(230000 + seed))}
		x := a.trace()
		if !checkTrace(t, x) {
			t.Fatalf("%v is not good", x)
		}
		path := impl.CriticalPath(x)
		if len(path) > 3 {
			rich++
		}
		for _, c := range x.Calls[1:] {
			if c.To > x.Calls[0].To {
				behind++
				break
			}
		}
		// What lies behind the first call's end, and calls that are empty, change nothing of its path.
		cut := laid(x, 0)
		for i := range cut.Calls[1:] {
			c := &cut.Calls[i+1]
			c.To = max(c.From, min(c.To, x.Calls[0].To))
		}
		if got := impl.CriticalPath(cut); !slices.Equal(got, path) {
			t.Fatalf("%v, cut at its end: %s", x, pathText(got))
		}
	}
	if rich < tries/4 || behind < tries/4 {
		t.Errorf("%d traces have more than three parts, %d calls that end behind the first one", rich, behind)
	}
}

func TestEdgesAndPoliciesAtRandom(t *testing.T) {
	edges, kept, traces, tries := 0, 0, 0, 8000
	for seed := range tries {
		a := traceAsker{newEvalAsker(int64(270000 + seed))}
		l, p := a.traces(), a.policies()
		edges += len(checkEdges(t, l))
		kept += strings.Count(keptText(checkKeep(t, p, l)), "x")
		// With PolicyFail put first all that fails is kept.
		for i, k := range checkKeep(t, append(policiesOf("fail"), p...), l) {
			traces++
			if fails(l[i]) && !k {
				t.Fatalf("by %v: %v fails, and is not kept", p, l[i])
			}
		}
		// Where there is no limit traces are kept in parts as all at once.
		if len(l) > 1 && !slices.ContainsFunc(p, func(x impl.Policy) bool { return x.Kind == impl.PolicyLimit }) {
			at := a.Intn(len(l))
			parts := append(impl.KeepTraces(p, l[:at]), impl.KeepTraces(p, l[at:])...)
			if !slices.Equal(parts, impl.KeepTraces(p, l)) {
				t.Fatalf("by %v in parts: %v", p, parts)
			}
		}
	}
	if edges < 5*tries || kept < traces/5 || kept > traces*4/5 {
		t.Errorf("%d edges; %d of %d traces were kept", edges, kept, traces)
	}
}

// wrongedTrace is a trace of which one thing is changed at random.
func (a traceAsker) wrongedTrace(x impl.Trace) impl.Trace {
	x = laid(x, 0)
	wild := oneOf(a.Rand, -1, 0, 1, 2, 3, a.Intn(100), maxTime, maxTime+1, math.MinInt, math.MaxInt)
	c := &x.Calls[a.Intn(len(x.Calls))]
	switch a.Intn(9) {
	case 0:
		x.Id = wild
	case 1:
		c.Id = wild
	case 2:
		c.Parent = wild
	case 3:
		c.From = wild
	case 4:
		c.To = wild
	case 5:
		c.Service = oneOf(a.Rand, "", "é", "9", "x", strings.Repeat("x", 41))
	case 6:
		c.Name = oneOf(a.Rand, "", "a b", "x", strings.Repeat("x", 41))
	case 7:
		x.Calls = oneOf(a.Rand, nil, append(x.Calls, x.Calls...), x.Calls[1:])
	default:
		c.Fail = !c.Fail
	}
	return x
}

// Promise 27: the functions answer at any arguments.
func TestTracesOfAnything(t *testing.T) {
	goodTraces, goodPolicies, tries := 0, 0, 20000
	for seed := range tries {
		a := traceAsker{newEvalAsker(int64(310000 + seed))}
		l, p := append(a.traces(), a.trace()), a.policies()
		at := a.Intn(len(l))
		l[at] = a.wrongedTrace(l[at])
		if checkTrace(t, l[at]) {
			goodTraces++
		}
		if len(p) > 0 && likely(a.Rand, 2) {
			x := &p[a.Intn(len(p))]
			switch a.Intn(3) {
			case 0:
				x.Kind = oneOf(a.Rand, 0, 1, 2, 3, 4, 5, 6, -1, math.MaxInt, math.MinInt)
			case 1:
				x.Least = oneOf(a.Rand, 0, 1, -1, 1000, 1001, maxTime, maxTime+1, math.MaxInt, math.MinInt)
			default:
				x.Service = oneOf(a.Rand, "", "a", "9", "é")
			}
		}
		if goodPoliciesModel(p) {
			goodPolicies++
		}
		checkEdges(t, l)
		checkKeep(t, p, l)
		checkKeep(t, p, slices.Delete(l, at, at+1))
	}
	if !isWithin(goodTraces, tries/10, tries*9/10) || !isWithin(goodPolicies, tries/4, tries*9/10) {
		t.Errorf("%d traces and %d lists of policies are good", goodTraces, goodPolicies)
	}
	for _, n := range edgeInts() {
		wild := impl.Call{Id: n, Parent: n, Service: "s", Name: "n", From: n, To: n}
		for _, x := range []impl.Trace{{Id: n, Calls: []impl.Call{wild}}, {Id: 1, Calls: []impl.Call{{Id: 1, Service: "s", Name: "n", To: 9}, wild}}, {Id: 1, Calls: []impl.Call{{Id: 1, Service: "s", Name: "n", To: 9}, {Id: 2, Parent: 1, Service: "s", Name: "n", From: n, To: n}}}, {Id: 1, Calls: []impl.Call{{Id: 1, Service: "s", Name: "n", To: n}, {Id: 2, Parent: 1, Service: "s", Name: "n", To: n}}}} {
			checkTrace(t, x)
			checkEdges(t, []impl.Trace{x, traceOf("1@a:0-9 2<1@b:3-5")})
			for kind := -1; kind <= 6; kind++ {
				checkKeep(t, []impl.Policy{{Kind: kind, Least: n}}, []impl.Trace{x})
			}
		}
	}
}

// Promise 27: answers are new memory: what is written into one shows in no later one, and in no argument.
func TestAnswersOfTracesAreNew(t *testing.T) {
	x := traceOf("1@a:0-9 2<1@b:3-5! 3<1@c:4-7")
	arg, kept := guarded([]impl.Trace{x, x})
	p, keptPolicies := guarded(policiesOf("fail,limit 1"))
	for range 2 {
		self, path, edges, keeps := impl.SelfTimes(arg[0]), impl.CriticalPath(arg[0]), impl.ServiceEdges(arg), impl.KeepTraces(p, arg)
		if !slices.Equal(self, []int{5, 2, 3}) || pathText(path) != "1:0-3 2:3-4 3:4-7 1:7-9" || edgesText(edges) != "a>b 2/2 4; a>c 2/0 6" || keptText(keeps) != "xx" {
			t.Fatalf("%v, %s, %s, %v", self, pathText(path), edgesText(edges), keeps)
		}
		clear(self[:cap(self)])
		clear(path[:cap(path)])
		clear(edges[:cap(edges)])
		clear(keeps[:cap(keeps)])
		if !kept() || !keptPolicies() {
			t.Fatal("what is written into an answer shows")
		}
	}
}

// As many traces as there may be, as long as they may be.
func TestTracesOfMuch(t *testing.T) {
	begin := time.Now()
	deep := callChain(100, 0, 0)
	for i := range deep.Calls {
		deep.Calls[i].From, deep.Calls[i].To = i, 1000-i
	}
	for _, x := range []impl.Trace{deep, callChain(100, 0, maxTime), callFan(100, 7), callFan(100, 0)} {
		l := slices.Repeat([]impl.Trace{x}, 50)
		for range 100 {
			impl.ServiceEdges(l)
			impl.KeepTraces(policiesOf("fail,slow 1000000000000,service none,share 1,limit 1000"), l)
			for range 50 {
				impl.SelfTimes(x)
				impl.CriticalPath(x)
			}
		}
	}
	if spent := time.Since(begin); spent > 60*time.Second {
		t.Errorf("it took %v", spent)
	}
}
