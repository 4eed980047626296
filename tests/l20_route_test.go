package tests

import (
	"fmt"
	"math"
	"regexp"
	"slices"
	"strconv"
	"strings"
	"testing"

	"loop.example/g00039/impl"
)

// routePlaces tells how many others each route is within and which one it is a kid of (-1 for none); false where they are not just one tree.
func routePlaces(l []impl.Route) ([]int, []int, bool) {
	type open struct{ number, left int }
	var stack []open
	var within, above []int
	for i, r := range l {
		for len(stack) > 0 && stack[len(stack)-1].left == 0 {
			stack = stack[:len(stack)-1]
		}
		if r.Kids < 0 || i > 0 && len(stack) == 0 {
			return nil, nil, false
		}
		within, above = append(within, len(stack)), append(above, -1)
		if last := len(stack) - 1; last >= 0 {
			above[i] = stack[last].number
			stack[last].left--
		}
		stack = append(stack, open{i, r.Kids})
	}
	return within, above, len(l) > 0 && !slices.ContainsFunc(stack, func(o open) bool { return o.left != 0 })
}

func goodRouteModel(r impl.Route) bool {
	good := isNameModel(r.Receiver) && goodMatchersModel(r.Match) && choiceModel(1, r.By)
	good = good && isWithin(r.Wait, 0, maxTime) && isWithin(r.Every, 1, maxTime) && isWithin(r.Again, 1, maxTime) && len(r.Mute) <= 20
	for i, n := range r.Mute {
		good = good && isWithin(n, 0, 19) && (i == 0 || r.Mute[i-1] < n)
	}
	return good
}

func goodRoutesModel(l []impl.Route) bool {
	within, _, good := routePlaces(l)
	if !good || len(l) > 40 || len(l[0].Match) > 0 || l[0].On {
		return false
	}
	for i, r := range l {
		good = good && within[i] < 8 && goodRouteModel(r)
	}
	return good
}

func routeLineModel(r impl.Route, within int) string {
	out := strings.Repeat(" ", 2*within) + r.Receiver
	if len(r.Match) > 0 {
		out += " " + matchersTextModel(r.Match)
	}
	if len(r.By) > 0 {
		out += fmt.Sprintf(" by %s", strings.Join(r.By, ","))
	}
	out += fmt.Sprintf(" wait %d every %d again %d", r.Wait, r.Every, r.Again)
	if len(r.Mute) > 0 {
		out += " mute " + strings.ReplaceAll(strings.Trim(fmt.Sprint(r.Mute), "[]"), " ", ",")
	}
	if r.On {
		out += " on"
	}
	return out + "\n"
}

// routesTextWhole is the text of good routes, however long it is.
func routesTextWhole(l []impl.Route) string {
	within, _, _ := routePlaces(l)
	out := ""
	for i, r := range l {
		out += routeLineModel(r, within[i])
	}
	return out
}

func routesTextModel(l []impl.Route) string {
	if !goodRoutesModel(l) || len(routesTextWhole(l)) > 10000 {
		return ""
	}
	return routesTextWhole(l)
}

// routeShape has the parts of a line; no part behind the matchers can have a `}`.
var routeShape = regexp.MustCompile(`^((?:  )*)([A-Za-z0-9_]+)(?: (\{.*\}))?(?: by ([A-Za-z0-9_,]+))? wait ([0-9]+) every ([0-9]+) again ([0-9]+)(?: mute ([0-9,]+))?( on)?\n$`)

func readRouteModel(line string) (impl.Route, int, bool) {
	p := routeShape.FindStringSubmatch(line)
	if p == nil {
		return impl.Route{}, 0, false
	}
	r := impl.Route{Receiver: p[2], On: p[9] != ""}
	ok := true
	if p[3] != "" {
		r.Match, ok = impl.ReadMatchers(p[3])
		ok = ok && len(r.Match) > 0
	}
	if p[4] != "" {
		r.By = strings.Split(p[4], ",")
	}
	number := func(text string) int {
		n, right := inDigitsModel(text)
		ok = ok && right
		return n
	}
	r.Wait, r.Every, r.Again = number(p[5]), number(p[6]), number(p[7])
	if p[8] != "" {
		for _, text := range strings.Split(p[8], ",") {
			r.Mute = append(r.Mute, number(text))
		}
	}
	return r, len(p[1]) / 2, ok && goodRouteModel(r)
}

func readRoutesModel(text string) impl.RoutesRes {
	if len(text) > 10000 {
		return impl.RoutesRes{Err: 1}
	}
	lines := strings.SplitAfter(text, "\n")
	if lines[len(lines)-1] == "" {
		lines = lines[:len(lines)-1]
	}
	var l []impl.Route
	var within []int
	for i, line := range lines {
		r, n, ok := readRouteModel(line)
		if !ok {
			return impl.RoutesRes{Err: 2, Line: i + 1}
		}
		l, within = append(l, r), append(within, n)
	}
	for i, n := range within {
		if i == 0 && n != 0 || i > 0 && (n == 0 || n-within[i-1] > 1) {
			return impl.RoutesRes{Err: 3, Line: i + 1}
		}
	}
	for i := range l {
		for j := i + 1; j < len(l) && within[j] > within[i]; j++ {
			if within[j] == within[i]+1 {
				l[i].Kids++
			}
		}
	}
	if !goodRoutesModel(l) {
		return impl.RoutesRes{Err: 4}
	}
	return impl.RoutesRes{Routes: l}
}

// takersModel asks each route whether it is come to, from the one above it and from those ahead of it.
func takersModel(l []impl.Route, labels []impl.Label) []int {
	if !goodRoutesModel(l) || !goodLabelsModel(labels) {
		return nil
	}
	_, above, _ := routePlaces(l)
	come, ended, passed := make([]bool, len(l)), make([]bool, len(l)), make([]bool, len(l))
	come[0] = true
	for i := 1; i < len(l); i++ {
		up := above[i]
		if come[up] && !ended[up] && allFitModel(l[i].Match, labels) {
			come[i], passed[up], ended[up] = true, true, !l[i].On
		}
	}
	var out []int
	for i := range l {
		if come[i] && !passed[i] {
			out = append(out, i)
		}
	}
	return out
}

// checkRoutes holds GoodRoutes and RoutesText against the model, and what promise 20 says of the text.
func checkRoutes(t *testing.T, l []impl.Route) bool {
	t.Helper()
	arg, kept := guarded(l)
	good := impl.GoodRoutes(arg)
	if good != goodRoutesModel(l) || !kept() {
		t.Fatalf("GoodRoutes of %s: %v", shortly(l), good)
	}
	text := impl.RoutesText(arg)
	if text != routesTextModel(l) || !kept() {
		t.Fatalf("RoutesText of %s: %q", shortly(l), text)
	}
	if text == "" {
		return good
	}
	if got := checkReadRoutes(t, text); !same(got, impl.RoutesRes{Routes: l}) {
		t.Fatalf("ReadRoutes of %q: %+v", text, got)
	}
	return good
}

func checkReadRoutes(t *testing.T, text string) impl.RoutesRes {
	t.Helper()
	got := impl.ReadRoutes(text)
	if want := readRoutesModel(text); !same(got, want) {
		t.Fatalf("ReadRoutes of %.300q: %+v, not %+v", text, got, want)
	}
	if got.Err == 0 && (got.Line != 0 || impl.RoutesText(got.Routes) != text || !impl.GoodRoutes(got.Routes)) {
		t.Fatalf("the routes of %q: %+v", text, got)
	}
	if got.Err != 0 && len(got.Routes) > 0 {
		t.Fatalf("routes beside a fault: %q, %+v", text, got)
	}
	checkOwn(t, got)
	return got
}

// checkTakers holds RoutesFor against the model, and what promise 20 says of those that take labels.
func checkTakers(t *testing.T, l []impl.Route, labels []impl.Label) []int {
	t.Helper()
	arg, kept := guarded(l)
	on, keptLabels := guarded(labels)
	got := impl.RoutesFor(arg, on)
	if !slices.Equal(got, takersModel(l, labels)) || !kept() || !keptLabels() {
		t.Fatalf("RoutesFor %s, %v: %v, not %v", shortly(l), labels, got, takersModel(l, labels))
	}
	checkOwn(t, got, arg, on)
	if (len(got) > 0) != (goodRoutesModel(l) && goodLabelsModel(labels)) {
		t.Fatalf("RoutesFor %s, %v: %v", shortly(l), labels, got)
	}
	for i, n := range got {
		if i > 0 && got[i-1] >= n || !impl.Fits(l[n].Match, labels) {
			t.Fatalf("RoutesFor %s, %v: %v", shortly(l), labels, got)
		}
	}
	return got
}

func checkGroupOf(t *testing.T, l []impl.Route, number int, labels []impl.Label) []impl.Label {
	t.Helper()
	var want []impl.Label
	if goodRoutesModel(l) && goodLabelsModel(labels) && isWithin(number, 0, len(l)-1) {
		for _, x := range labels {
			if slices.Contains(l[number].By, x.Name) {
				want = append(want, x)
			}
		}
	}
	arg, kept := guarded(l)
	on, keptLabels := guarded(labels)
	got := impl.GroupOf(arg, number, on)
	if !slices.Equal(got, want) || !kept() || !keptLabels() {
		t.Fatalf("GroupOf %s, %d, %v: %v, not %v", shortly(l), number, labels, got, want)
	}
	checkOwn(t, got, arg, on)
	return got
}

// route is a good one with that many kids.
func route(receiver string, kids int) impl.Route {
	return impl.Route{Receiver: receiver, Wait: 1, Every: 2, Again: 3, Kids: kids}
}

// fan is one route and n - 1 kids of it.
func fan(n int) []impl.Route {
	l := []impl.Route{route("top", n-1)}
	for i := 1; i < n; i++ {
		l = append(l, route("r"+strconv.Itoa(i), 0))
	}
	return l
}

// chain is n routes within each other.
func chain(n int) []impl.Route {
	var l []impl.Route
	for i := range n {
		l = append(l, route("c"+strconv.Itoa(i), min(n-1-i, 1)))
	}
	return l
}

// routesOf reads routes from their lines.
func routesOf(lines ...string) []impl.Route {
	res := impl.ReadRoutes(strings.Join(lines, "\n") + "\n")
	if res.Err != 0 {
		panic(fmt.Sprint(res, lines))
	}
	return res.Routes
}

func TestLimitsOfRoutes(t *testing.T) {
	if impl.MaxRoutes != 40 || impl.MaxDeep != 8 || impl.MaxIntervals != 20 || impl.MaxRoutesText != 10000 {
		t.Error("the limits")
	}
	for _, none := range [][]impl.Route{nil, {}} {
		if checkRoutes(t, none) || impl.RoutesText(none) != "" || len(checkTakers(t, none, labelsOf("a", "1"))) != 0 || len(checkGroupOf(t, none, 0, labelsOf("a", "1"))) != 0 {
			t.Error("no routes")
		}
	}
	for n, want := range map[int]bool{1: true, 2: true, 39: true, 40: true, 41: false, 60: false} {
		if checkRoutes(t, fan(n)) != want || len(checkTakers(t, fan(n), nil)) > 0 != want {
			t.Errorf("%d routes", n)
		}
	}
	for n := 1; n <= 45; n++ {
		want := n <= 8
		l := chain(n)
		if checkRoutes(t, l) != want || len(checkTakers(t, l, nil)) > 0 != want {
			t.Errorf("%d routes within each other", n)
		}
		// The deepest ones stand behind others, and others behind them.
		l[0].Kids += 2
		l = append(append([]impl.Route{l[0], route("ahead", 1), route("aheadkid", 0)}, l[1:]...), route("behind", 0))
		if n > 1 && checkRoutes(t, l) != want {
			t.Errorf("%d routes within each other, with others beside them", n)
		}
	}
	// Forty of them, eight within each other.
	l := chain(8)
	l[6].Kids = 33
	for range 32 {
		l = append(l, route("more", 0))
	}
	if !checkRoutes(t, l) || len(checkTakers(t, l, nil)) != 1 {
		t.Error("forty routes, eight deep")
	}
	l[39].Kids, l[6].Kids = 0, 34
	if checkRoutes(t, append(l, route("one_more", 0))) {
		t.Error("forty-one routes, eight deep")
	}
}

func TestKidsOfRoutes(t *testing.T) {
	for _, c := range []struct {
		kids string
		want bool
	}{
		{"0", true}, {"1", false}, {"-1", false}, {"1 0", true}, {"0 0", false}, {"2 0", false}, {"1 1", false}, {"1 -1", false}, {"-1 0", false}, {"0 1", false},
		{"2 0 0", true}, {"1 1 0", true}, {"1 0 0", false}, {"2 1 0", false}, {"0 2 0", false}, {"0 1 0", false}, {"3 0 0", false}, {"1 2 0", false}, {"2 0 -1", false}, {"2 -1 0", false}, {"2 -1 1 0", false}, {"3 -1 0 0", false},
		{"2 1 0 0", true}, {"2 0 1 0", true}, {"1 2 0 0", true}, {"1 1 0 0", false}, {"1 0 1 0", false}, {"3 1 0 0", false},
		{"9223372036854775807", false}, {"1 9223372036854775807", false}, {"9223372036854775807 0 0", false}, {"-9223372036854775808", false}, {"1 -9223372036854775808", false}, {"-9223372036854775808 0", false},
		{"9223372036854775807 9223372036854775807 9223372036854775807", false}, {"2 -9223372036854775808 9223372036854775807", false}, {"39", false}, {"40", false},
	} {
		var l []impl.Route
		for i, text := range strings.Fields(c.kids) {
			n, _ := strconv.Atoi(text)
			l = append(l, route("r"+strconv.Itoa(i), n))
		}
		if checkRoutes(t, l) != c.want || len(checkTakers(t, l, nil)) > 0 != c.want {
			t.Errorf("the kids %s", c.kids)
		}
		checkGroupOf(t, l, 0, labelsOf("a", "1"))
	}
	for n := range 41 {
		l := slices.Repeat([]impl.Route{route("r", math.MaxInt)}, n)
		if checkRoutes(t, l) {
			t.Errorf("%d routes with all kids that there can be", n)
		}
		l = slices.Repeat([]impl.Route{route("r", 0)}, n)
		if checkRoutes(t, l) != (n == 1) {
			t.Errorf("%d trees", n)
		}
	}
}

// tryRoute changes a kid, one within that kid and the last one, and where it may be the first one too, and asks whether they are good then.
func tryRoute(t *testing.T, want bool, change func(r *impl.Route)) {
	t.Helper()
	for at := range 4 {
		l := routesOf("top wait 1 every 2 again 3", "  one wait 1 every 2 again 3", "    two wait 1 every 2 again 3", "  last wait 1 every 2 again 3")
		change(&l[at])
		first := at == 0 && (len(l[0].Match) > 0 || l[0].On)
		if checkRoutes(t, l) != (want && !first) {
			t.Errorf("%d of %s is not %v", at, shortly(l), want)
		}
		if len(checkTakers(t, l, nil)) > 0 != (want && !first) {
			t.Errorf("%s take labels, or not", shortly(l))
		}
		for n := range l {
			checkGroupOf(t, l, n, labelsOf("a", "1"))
		}
	}
}

func TestRoutesThatAreGood(t *testing.T) {
	for _, name := range []string{"_", "A9", "by", "wait", "on", "mute", "every", strings.Repeat("n", 40)} {
		tryRoute(t, true, func(r *impl.Route) { r.Receiver = name })
		tryRoute(t, true, func(r *impl.Route) { r.By = []string{name} })
	}
	for _, bad := range []string{"", "1", "9a", "a b", " a", "a ", "a-b", "é", "a\n", "a=", "a,b", "{}", strings.Repeat("n", 41)} {
		tryRoute(t, false, func(r *impl.Route) { r.Receiver = bad })
		tryRoute(t, false, func(r *impl.Route) { r.By = []string{bad} })
		tryRoute(t, false, func(r *impl.Route) { r.By = []string{"A", "a" + bad + "!"} })
	}
	for _, m := range badMatchers() {
		tryRoute(t, false, func(r *impl.Route) { r.Match = m })
		tryRoute(t, false, func(r *impl.Route) { r.Match = append(matchersOf(`a="1"`), m...) })
	}
	for n := range 11 {
		tryRoute(t, true, func(r *impl.Route) { r.Match = manyMatchers(n) })
	}
	tryRoute(t, true, func(r *impl.Route) { r.On = true })
	tryRoute(t, true, func(r *impl.Route) { r.On, r.Match = true, matchersOf(`a="1"`) })
	names := []string{"A", "B", "_", "a", "b", "c", "d", "e", "f", "g"}
	tryRoute(t, true, func(r *impl.Route) { r.By = names })
	tryRoute(t, true, func(r *impl.Route) { r.By = names[:9] })
	tryRoute(t, false, func(r *impl.Route) { r.By = append(slices.Clone(names), "h") })
	for _, by := range [][]string{{"b", "a"}, {"a", "a"}, {"a", "c", "b"}, {"a", "b", "b"}, {"a", "A"}, {"a", "b", "1"}, {"", "a"}} {
		tryRoute(t, false, func(r *impl.Route) { r.By = by })
	}
}

func TestTimesOfRoutes(t *testing.T) {
	for n, want := range map[int]bool{math.MinInt: false, -1: false, 0: true, 1: true, maxTime - 1: true, maxTime: true, maxTime + 1: false, math.MaxInt: false} {
		tryRoute(t, want, func(r *impl.Route) { r.Wait = n })
		tryRoute(t, want && n > 0, func(r *impl.Route) { r.Every = n })
		tryRoute(t, want && n > 0, func(r *impl.Route) { r.Again = n })
		tryRoute(t, want && n > 0, func(r *impl.Route) { r.Wait, r.Every, r.Again = n, n, n })
	}
}

func TestMutesOfRoutes(t *testing.T) {
	var all []int
	for n := range 20 {
		all = append(all, n)
		tryRoute(t, true, func(r *impl.Route) { r.Mute = all })
		tryRoute(t, true, func(r *impl.Route) { r.Mute = []int{n} })
	}
	for _, mute := range [][]int{{0, 19}, {1, 3, 18}, all[1:], all[:19]} {
		tryRoute(t, true, func(r *impl.Route) { r.Mute = mute })
	}
	for _, mute := range [][]int{
		append(slices.Clone(all), 20), append(slices.Clone(all), 19), append([]int{-1}, all...), append([]int{0}, all...),
		{-1}, {20}, {21}, {math.MinInt}, {math.MaxInt}, {1, 0}, {0, 0}, {5, 5}, {-1, 0}, {0, 20}, {19, 20}, {1, 3, 2}, {1, 2, 2}, {-1, 5, 20}, {19, 0}, {math.MaxInt, math.MinInt},
	} {
		tryRoute(t, false, func(r *impl.Route) { r.Mute = mute })
	}
}

func TestTextOfRoutes(t *testing.T) {
	m := matchersOf(`a="1",b=~"x*|\\*",c!="",d!~"\""`)
	for _, c := range []struct {
		route impl.Route
		want  string
	}{
		{route("r", 0), "  r wait 1 every 2 again 3\n"},
		{impl.Route{Receiver: "r", Every: 1, Again: 1}, "  r wait 0 every 1 again 1\n"},
		{impl.Route{Receiver: "r", Wait: maxTime, Every: maxTime, Again: maxTime}, "  r wait 1000000000000 every 1000000000000 again 1000000000000\n"},
		{impl.Route{Receiver: "r", Match: matchersOf(`a="1"`), Every: 5, Again: 10}, "  r {a=\"1\"} wait 0 every 5 again 10\n"},
		{impl.Route{Receiver: "r", Match: m, Every: 5, Again: 10}, "  r {a=\"1\",b=~\"x*|\\\\*\",c!=\"\",d!~\"\\\"\"} wait 0 every 5 again 10\n"},
		{impl.Route{Receiver: "r", Match: []impl.Matcher{{Name: "b", Op: 1}, {Name: "a", Op: 1}, {Name: "a", Op: 1}}, Every: 5, Again: 10}, "  r {b=\"\",a=\"\",a=\"\"} wait 0 every 5 again 10\n"},
		{impl.Route{Receiver: "r", By: []string{"job"}, Every: 5, Again: 10}, "  r by job wait 0 every 5 again 10\n"},
		{impl.Route{Receiver: "r", By: []string{"by", "job", "wait"}, Every: 5, Again: 10}, "  r by by,job,wait wait 0 every 5 again 10\n"},
		{impl.Route{Receiver: "r", Mute: []int{0}, Every: 5, Again: 10}, "  r wait 0 every 5 again 10 mute 0\n"},
		{impl.Route{Receiver: "r", Mute: []int{0, 7, 19}, Every: 5, Again: 10}, "  r wait 0 every 5 again 10 mute 0,7,19\n"},
		{impl.Route{Receiver: "r", On: true, Every: 5, Again: 10}, "  r wait 0 every 5 again 10 on\n"},
		{impl.Route{Receiver: "on", Match: m[:1], By: []string{"a", "b"}, Wait: 7, Every: 5, Again: 10, Mute: []int{1, 2}, On: true}, "  on {a=\"1\"} by a,b wait 7 every 5 again 10 mute 1,2 on\n"},
	} {
		l := []impl.Route{route("top", 1), c.route}
		if !checkRoutes(t, l) || impl.RoutesText(l) != "top wait 1 every 2 again 3\n"+c.want {
			t.Errorf("%+v: %q", c.route, impl.RoutesText(l))
		}
	}
	l := []impl.Route{route("a", 3), route("b", 1), route("c", 2), route("d", 0), route("e", 0), route("f", 0), route("g", 1), route("h", 0)}
	want := ""
	for _, name := range []string{"a", "  b", "    c", "      d", "      e", "  f", "  g", "    h"} {
		want += name + " wait 1 every 2 again 3\n"
	}
	if !checkRoutes(t, l) || impl.RoutesText(l) != want {
		t.Errorf("%q", impl.RoutesText(l))
	}
	for i := range l {
		l[i].Match, l[i].By, l[i].Mute = []impl.Matcher{}, []string{}, []int{}
	}
	if !checkRoutes(t, l) || impl.RoutesText(l) != want || takes(t, l, nil) != "3" {
		t.Errorf("with empty lists: %q", impl.RoutesText(l))
	}
	l[0].By, l[0].Mute = []string{"a"}, []int{3}
	if !checkRoutes(t, l) || !strings.HasPrefix(impl.RoutesText(l), "a by a wait 1 every 2 again 3 mute 3\n  b wait") {
		t.Errorf("%q", impl.RoutesText(l))
	}
}

// routesOfSize are good routes whose text would have that many bytes.
func routesOfSize(size int) []impl.Route {
	l := fan(40)
	for i := 1; i < len(l); i++ {
		l[i].Match = matchersOf(`a="",b="",c=""`)
	}
	for _, r := range l {
		size -= len(routeLineModel(r, 1))
	}
	size += 2
	for i := 1; i < len(l); i++ {
		for j := range l[i].Match {
			n := min(size, 100)
			l[i].Match[j].Value = strings.Repeat("v", n)
			size -= n
		}
	}
	if size != 0 {
		panic(size)
	}
	return l
}

func TestSizesOfRoutes(t *testing.T) {
	for size, want := range map[int]int{9999: 9999, 10000: 10000, 10001: 0, 10002: 0, 13000: 0} {
		l := routesOfSize(size)
		if !checkRoutes(t, l) || len(impl.RoutesText(l)) != want {
			t.Errorf("%d bytes: %d", size, len(impl.RoutesText(l)))
		}
		if len(checkTakers(t, l, nil)) != 1 {
			t.Errorf("routes whose text would have %d bytes take labels, too", size)
		}
	}
	text := impl.RoutesText(routesOfSize(10000))
	for _, c := range []struct {
		text      string
		err, line int
	}{
		{text, 0, 0}, {routesTextWhole(routesOfSize(10001)), 1, 0}, {text + "\n", 1, 0}, {text + "x", 1, 0}, {text[:9999], 2, 40}, {text[:9999] + "x", 2, 40}, {text[1:] + "x", 2, 41},
		{strings.Repeat("x", 10000), 2, 1}, {strings.Repeat("x", 10001), 1, 0}, {strings.Repeat(" ", 10000), 2, 1}, {strings.Repeat(" ", 10001), 1, 0}, {strings.Repeat("\n", 10000), 2, 1}, {strings.Repeat("\n", 10001), 1, 0},
		{strings.Repeat(" ", 9974) + "r wait 1 every 2 again 3 \n", 2, 1}, {strings.Repeat(" ", 9974) + "rr wait 1 every 2 again 3\n", 3, 1}, {strings.Repeat(" ", 9975) + "r wait 1 every 2 again 3\n", 2, 1}, {strings.Repeat(" ", 9976) + "r wait 1 every 2 again 3\n", 1, 0},
		{strings.Repeat("r wait 1 every 2 again 3\n", 400), 3, 2}, {strings.Repeat("r wait 1 every 2 again 3\n", 401), 1, 0},
		{"r wait 1 every 2 again 3 mute " + strings.Repeat("1,", 4984) + "1\n", 2, 1}, {"r by " + strings.Repeat("a,", 4984) + "b wait 1 every 2 again 3\n", 2, 1},
		{"r {" + strings.Repeat(`a="",`, 1900) + `a=""} wait 1 every 2 again 3` + "\n", 2, 1}, {strings.Repeat("{", 10000), 2, 1}, {"r {a=\"" + strings.Repeat(`\`, 9000), 2, 1}, {"r wait " + strings.Repeat("9", 9000) + " every 2 again 3\n", 2, 1},
	} {
		if got := checkReadRoutes(t, c.text); got.Err != c.err || got.Line != c.line {
			t.Errorf("%d bytes, %.40q: %+v", len(c.text), c.text, got)
		}
	}
}

func TestRoutesAreReadBack(t *testing.T) {
	for _, text := range []string{
		"a wait 0 every 1 again 1\n",
		"a by b wait 0 every 1 again 1\n",
		"a by A,_,a,b wait 1000000000000 every 1000000000000 again 1000000000000 mute 0,1,2,3,4,5,6,7,8,9,10,11,12,13,14,15,16,17,18,19\n",
		"by by by wait 0 every 1 again 1\n  wait by wait wait 0 every 1 again 1 on\n  on wait 0 every 1 again 1 on\n",
		"a wait 0 every 1 again 1\n  b {x=\"1\"} wait 0 every 1 again 1\n",
		"a wait 0 every 1 again 1\n  b {x=\"} by c wait 1 every 2 again 3 mute 1 on\"} wait 0 every 1 again 1\n",
		"a wait 0 every 1 again 1\n  b {x=\"  y {z}\",x!=\" on\",x=~\"\\\\\\\\\",x!~\"\\\"\"} by x wait 0 every 1 again 1\n",
		"a wait 0 every 1 again 1\n  b wait 0 every 1 again 1\n    c wait 0 every 1 again 1\n      d wait 0 every 1 again 1\n    e wait 0 every 1 again 1\n  f wait 0 every 1 again 1\n",
		"a wait 0 every 1 again 1\n  b wait 0 every 1 again 1\n    c wait 0 every 1 again 1\n      d wait 0 every 1 again 1\n  f wait 0 every 1 again 1\n    g wait 0 every 1 again 1\n",
	} {
		if got := checkReadRoutes(t, text); got.Err != 0 || !checkRoutes(t, got.Routes) || impl.RoutesText(got.Routes) != text {
			t.Errorf("%q: %+v", text, got)
		}
	}
	got := checkReadRoutes(t, "mail by a,b wait 4 every 5 again 6 mute 1,2\n  pager {j=\"1\",k!~\"x|y\"} wait 7 every 8 again 9 on\n    deep wait 0 every 1 again 2\n  chat wait 1 every 1 again 1\n")
	want := []impl.Route{
		{Receiver: "mail", By: []string{"a", "b"}, Wait: 4, Every: 5, Again: 6, Mute: []int{1, 2}, Kids: 2},
		{Receiver: "pager", Match: []impl.Matcher{{Name: "j", Op: impl.MatchSame, Value: "1"}, {Name: "k", Op: impl.MatchUnlike, Value: "x|y"}}, Wait: 7, Every: 8, Again: 9, On: true, Kids: 1},
		{Receiver: "deep", Every: 1, Again: 2},
		{Receiver: "chat", Wait: 1, Every: 1, Again: 1},
	}
	if !same(got, impl.RoutesRes{Routes: want}) {
		t.Errorf("%+v", got)
	}
}

// wrongLines are lines that no route has, whatever it is within.
func wrongLines() []string {
	out := []string{
		"", " ", "r", "r ", "wait 1 every 2 again 3", "r every 2 again 3", "r wait 1 again 3", "r wait 1 every 2", "r wait 1", "r on", "r {a=\"1\"}", "r by a", "r mute 1",
		"r wait 1 every 2 again", "r wait 1 every 2 again ", "r wait every 2 again 3", "r wait  every 2 again 3", "r wait 1 every again 3", "r wait", "r wait ",
		"r wait 1 wait 1 every 2 again 3", "r wait 1 every 2 every 2 again 3", "r wait 1 every 2 again 3 again 3", "r r wait 1 every 2 again 3", "r by a by a wait 1 every 2 again 3", "r by a by b wait 1 every 2 again 3",
		"r {a=\"1\"} {a=\"1\"} wait 1 every 2 again 3", "r wait 1 every 2 again 3 mute 1 mute 1", "r wait 1 every 2 again 3 mute 1 mute 2", "r wait 1 every 2 again 3 on on",
		"r every 2 wait 1 again 3", "r wait 1 again 3 every 2", "r again 3 every 2 wait 1", "r by a {a=\"1\"} wait 1 every 2 again 3", "r wait 1 {a=\"1\"} every 2 again 3", "r wait 1 every 2 again 3 {a=\"1\"}", "{a=\"1\"} r wait 1 every 2 again 3",
		"r wait 1 by a every 2 again 3", "r wait 1 every 2 again 3 by a", "by a r wait 1 every 2 again 3", "r mute 1 wait 1 every 2 again 3", "r wait 1 every 2 mute 1 again 3", "r wait 1 every 2 again 3 on mute 1", "r on wait 1 every 2 again 3", "on r wait 1 every 2 again 3",
		" r wait 1 every 2 again 3", "r wait 1 every 2 again 3 ", "r wait 1 every 2 again 3  ", "r wait 1 every 2 again 3 on ", "r wait 1 every 2 again 3 mute 1 ", "r  wait 1 every 2 again 3", "r wait  1 every 2 again 3", "r wait 1  every 2 again 3", "r wait 1 every 2 again 3  on", "r wait 1 every 2 again 3 mute  1",
		"\tr wait 1 every 2 again 3", "r\twait 1 every 2 again 3", "r wait 1 every 2 again 3\t", "r wait 1 every 2 again 3\r", "r wait 1 every 2 again 3\x00", "r wait 1 every 2 again 3 \x0b",
		"r wait 1 every 2 again 3 off", "r wait 1 every 2 again 3 only", "r wait 1 every 2 again 3 o", "r wait 1 every 2 again 3on", "r wait 1 every 2 again 3 On", "r Wait 1 every 2 again 3", "r wait 1 every 2 again 3;", "r wait 1 every 2 again 3 # x", "# r wait 1 every 2 again 3", "r wait=1 every 2 again 3", "r wait 1, every 2 again 3",
		"r wait 1 every 2 again 3 on mute", "r wait 1 every 2 again 3 mute", "r wait 1 every 2 again 3 mute ", "r by wait 1 every 2 again 3", "r by  wait 1 every 2 again 3", "r by , wait 1 every 2 again 3", "r bya wait 1 every 2 again 3",
		"r wait 1 every 0 again 3", "r wait 1 every 2 again 0", "r wait 1 every 0 again 0",
	}
	for _, n := range []string{"-1", "-0", "+1", "01", "00", "1000000000001", "9223372036854775807", "9223372036854775808", "18446744073709551617", strings.Repeat("9", 100), "1.5", "1e3", "0x1", "1_0", "a", "1a", "a1", "½", "1,2", `"1"`} {
		out = append(out, "r wait "+n+" every 2 again 3", "r wait 1 every "+n+" again 3", "r wait 1 every 2 again "+n, "r wait 1 every 2 again "+n+" on")
	}
	for _, s := range []string{"1", "9a", "é", "a-b", "a.b", "-", `"a"`, "a:", strings.Repeat("n", 41)} {
		out = append(out, s+" wait 1 every 2 again 3", "r by "+s+" wait 1 every 2 again 3", "r by A,"+s+" wait 1 every 2 again 3", "r {"+s+"=\"1\"} wait 1 every 2 again 3")
	}
	for _, by := range []string{"b,a", "a,a", "a,b,b", "a,c,b", "a,A", "a,", ",a", "a,,b", "a, b", "a ,b", "a b", "a,b,c,d,e,f,g,h,i,j,k", "(a)"} {
		out = append(out, "r by "+by+" wait 1 every 2 again 3")
	}
	for _, m := range []string{"{}", "{", "}", "{{a=\"1\"}}", "{a}", "{a=}", "{a=1}", "{a=\"1\"", "a=\"1\"}", "a=\"1\"", "{a=\"1\",}", "{,a=\"1\"}", "{a=\"1\",,b=\"1\"}", "{a=\"1\" }", "{ a=\"1\"}", "{a=\"1\", b=\"1\"}", "{a =\"1\"}", "{a==\"1\"}", "{a~\"1\"}", "{a=!\"1\"}", "{a=\"\\n\"}", "{a=\"1}", "{a=\"\\\"}",
		"{a=~\"\\\\a\"}", "{a!~\"\\\\\"}", "{=\"1\"}", "{a=\"\t\"}", "{a=\"é\"}", "{a=\"\x7f\"}", "{a=\"" + strings.Repeat("v", 101) + "\"}", matchersTextModel(manyMatchers(11)), "{a=\"1\"}{b=\"1\"}", "(a=\"1\")"} {
		out = append(out, "r "+m+" wait 1 every 2 again 3", "r "+m+" by a wait 1 every 2 again 3 mute 1 on")
	}
	for _, mute := range []string{"1,0", "0,0", "5,5", "1,3,2", "1,2,2", "20", "0,20", "-1", "-1,0", "+1", "01", "00", "1,", ",1", "1,,2", "1, 2", "1 ,2", "1 2", "a", "1,a", "[1]", "9223372036854775808", "1,18446744073709551618", strings.Repeat("9", 60), "0,1,2,3,4,5,6,7,8,9,10,11,12,13,14,15,16,17,18,19,20", "0,0,1,2,3,4,5,6,7,8,9,10,11,12,13,14,15,16,17,18,19"} {
		out = append(out, "r wait 1 every 2 again 3 mute "+mute, "r wait 1 every 2 again 3 mute "+mute+" on")
	}
	return append(out, "r{a=\"1\"} wait 1 every 2 again 3", "r {a=\"1\"}wait 1 every 2 again 3", "r {a=\"1\"}by a wait 1 every 2 again 3", "r wait 1 every 2 again 3 mute 1on", "r wait 1 every 2 again 3mute 1")
}

func TestLinesThatNoRouteHas(t *testing.T) {
	top, kid := "top wait 1 every 2 again 3\n", "  kid wait 1 every 2 again 3\n"
	for _, line := range wrongLines() {
		for _, c := range []struct {
			text string
			line int
		}{
			{line + "\n", 1},
			{"  " + line + "\n", 1},
			{line + "\n" + kid, 1},
			{top + "  " + line + "\n", 2},
			{top + kid + "    " + line + "\n", 3},
			{top + kid + "  " + line + "\n" + kid, 3},
			{top + kid + "  " + line + "\n  " + line + "\n", 3},
			// What can't stand within its line ahead is looked for later.
			{kid + "  " + line + "\n", 2},
			{top + top + "  " + line + "\n", 3},
			{top + "    " + kid + strings.Repeat("  ", 9) + line + "\n", 3},
		} {
			if got := checkReadRoutes(t, c.text); got.Err != 2 || got.Line != c.line {
				t.Errorf("%q: %+v, not 2 at %d", c.text, got, c.line)
			}
		}
		if got := checkReadRoutes(t, line); line != "" && (got.Err != 2 || got.Line != 1) {
			t.Errorf("%q: %+v", line, got)
		}
		if got := checkReadRoutes(t, top+kid+line); line != "" && (got.Err != 2 || got.Line != 3) {
			t.Errorf("%q behind others: %+v", line, got)
		}
	}
}

func TestLinesThatAreNotEnded(t *testing.T) {
	top, kid := "top wait 1 every 2 again 3", "  kid wait 1 every 2 again 3"
	for _, c := range []struct {
		text      string
		err, line int
	}{
		{"", 4, 0}, {"\n", 2, 1}, {"\n\n", 2, 1}, {"\n" + top + "\n", 2, 1}, {top, 2, 1}, {top + "\n", 0, 0}, {top + "\n\n", 2, 2}, {top + "\n" + kid, 2, 2}, {top + "\n" + kid + "\n", 0, 0}, {top + "\n\n" + kid + "\n", 2, 2}, {top + "\n" + kid + "\n\n", 2, 3}, {top + "\n" + kid + "\n ", 2, 3}, {top + "\r\n", 2, 1},
		{top + "\n" + top, 2, 2}, {kid, 2, 1}, {top + kid + "\n", 2, 1}, {top + " " + kid + "\n", 2, 1}, {top + "\n" + top + "\n" + kid, 2, 3}, {top + " on", 2, 1}, {top + " on\n", 4, 0},
		{top + "\n   kid wait 1 every 2 again 3\n", 2, 2}, {top + "\n kid wait 1 every 2 again 3\n", 2, 2}, {top + "\n" + kid + "\n     kid wait 1 every 2 again 3\n", 2, 3}, {" " + top + "\n", 2, 1}, {"   " + top + "\n", 2, 1}, {"  " + top + "\n", 3, 1},
	} {
		if got := checkReadRoutes(t, c.text); got.Err != c.err || got.Line != c.line {
			t.Errorf("%q: %+v", c.text, got)
		}
	}
}

// linesAt are good lines, each within so many others.
func linesAt(within ...int) string {
	out := ""
	for i, n := range within {
		out += routeLineModel(route("r"+strconv.Itoa(i), 0), n)
	}
	return out
}

func TestLinesWithoutAPlace(t *testing.T) {
	for _, c := range []struct {
		within    []int
		err, line int
	}{
		{[]int{0}, 0, 0}, {[]int{1}, 3, 1}, {[]int{2}, 3, 1}, {[]int{100}, 3, 1}, {[]int{0, 0}, 3, 2}, {[]int{0, 1}, 0, 0}, {[]int{0, 2}, 3, 2}, {[]int{0, 3}, 3, 2}, {[]int{0, 9}, 3, 2}, {[]int{0, 1000}, 3, 2},
		{[]int{1, 0}, 3, 1}, {[]int{1, 1}, 3, 1}, {[]int{1, 2}, 3, 1}, {[]int{1, 3}, 3, 1}, {[]int{0, 1, 0}, 3, 3}, {[]int{0, 1, 1}, 0, 0}, {[]int{0, 1, 2}, 0, 0}, {[]int{0, 1, 3}, 3, 3}, {[]int{0, 1, 4}, 3, 3}, {[]int{0, 2, 0}, 3, 2}, {[]int{0, 2, 1}, 3, 2}, {[]int{0, 0, 2}, 3, 2},
		{[]int{0, 1, 2, 1}, 0, 0}, {[]int{0, 1, 2, 0}, 3, 4}, {[]int{0, 1, 2, 3, 1, 3}, 3, 6}, {[]int{0, 1, 2, 3, 1, 2}, 0, 0}, {[]int{0, 1, 2, 3, 1, 2, 4}, 3, 7}, {[]int{0, 1, 2, 3, 1, 2, 3, 4, 2}, 0, 0}, {[]int{0, 1, 1, 1, 3}, 3, 5}, {[]int{0, 1, 1, 1, 0, 3}, 3, 5},
		{[]int{0, 1, 2, 3, 4, 5, 6, 7}, 0, 0}, {[]int{0, 1, 2, 3, 4, 5, 6, 7, 8}, 4, 0}, {[]int{0, 1, 2, 3, 4, 5, 6, 7, 7, 7, 1, 2}, 0, 0}, {[]int{0, 1, 2, 3, 4, 5, 6, 7, 8, 1}, 4, 0}, {[]int{0, 1, 2, 3, 4, 5, 6, 7, 8, 9, 10}, 4, 0}, {[]int{0, 1, 2, 3, 4, 5, 6, 7, 9}, 3, 9}, {[]int{0, 1, 2, 3, 4, 5, 6, 7, 8, 0}, 3, 10}, {[]int{0, 1, 2, 3, 4, 5, 6, 7, 8, 10}, 3, 10},
	} {
		text := linesAt(c.within...)
		if got := checkReadRoutes(t, text); got.Err != c.err || got.Line != c.line {
			t.Errorf("%v: %+v", c.within, got)
		}
		// A line that no route has is told ahead of it, wherever it stands.
		for at := range len(c.within) + 1 {
			lines := slices.Insert(strings.SplitAfter(text, "\n"), at, "x\n")
			if got := checkReadRoutes(t, strings.Join(lines, "")); got.Err != 2 || got.Line != at+1 {
				t.Errorf("%v with a wrong line at %d: %+v", c.within, at, got)
			}
		}
	}
	for n, want := range map[int]int{38: 0, 39: 0, 40: 4, 41: 4, 200: 4} {
		if got := checkReadRoutes(t, linesAt(append([]int{0}, slices.Repeat([]int{1}, n)...)...)); got.Err != want || got.Line != 0 {
			t.Errorf("%d kids: %+v", n, got)
		}
		if got := checkReadRoutes(t, linesAt(append([]int{0}, append(slices.Repeat([]int{1}, n), 0)...)...)); got.Err != 3 || got.Line != n+2 {
			t.Errorf("%d kids and a second tree: %+v", n, got)
		}
	}
	var deep []int
	for n := range 80 {
		deep = append(deep, n)
		if got := checkReadRoutes(t, linesAt(deep...)); got.Err != map[bool]int{true: 0, false: 4}[n < 8] || got.Line != 0 {
			t.Errorf("%d within each other: %+v", n+1, got)
		}
	}
	for _, first := range []string{`r {a="1"} wait 1 every 2 again 3`, "r wait 1 every 2 again 3 on", `r {a="1"} by a wait 1 every 2 again 3 mute 1 on`, `r {a=~"*"} wait 1 every 2 again 3`} {
		for _, behind := range []string{"", "  kid wait 1 every 2 again 3\n", `  kid {a="1"} wait 1 every 2 again 3 on` + "\n"} {
			if got := checkReadRoutes(t, first+"\n"+behind); got.Err != 4 || got.Line != 0 {
				t.Errorf("%q: %+v", first, got)
			}
		}
		if got := checkReadRoutes(t, first+"\n"+first+"\n"); got.Err != 3 || got.Line != 2 {
			t.Errorf("%q twice: %+v", first, got)
		}
		if got := checkReadRoutes(t, "  "+first+"\n"); got.Err != 3 || got.Line != 1 {
			t.Errorf("%q within something: %+v", first, got)
		}
		if got := checkReadRoutes(t, "top wait 1 every 2 again 3\n  "+first+"\n"); got.Err != 0 {
			t.Errorf("%q as a kid: %+v", first, got)
		}
	}
}

func TestNothingElseIsReadAsRoutes(t *testing.T) {
	read := 0
	for _, text := range []string{
		"m wait 1 every 2 again 3\n",
		"m by a,b wait 10 every 2 again 3 mute 0,12\n  p {a=\"1\"} wait 0 every 5 again 9 on\n",
		"m wait 1 every 2 again 3\n  p {a=~\"x|\\\"\",b!=\"\"} by a wait 1 every 2 again 3\n    q wait 1 every 2 again 3 mute 19\n  s wait 1 every 2 again 3\n",
	} {
		for _, s := range nearTexts(text, " \nab019,-+{}=\"\\~ony_\t\xff") {
			if checkReadRoutes(t, s).Err == 0 {
				read++
			}
		}
	}
	if read < 100 {
		t.Errorf("%d were read", read)
	}
}

// takes tells the numbers of those that take labels, as a text.
func takes(t *testing.T, l []impl.Route, labels []impl.Label) string {
	t.Helper()
	return strings.Trim(fmt.Sprint(checkTakers(t, l, labels)), "[]")
}

// tall makes routes from the texts of their matchers, each with two blanks for each that it is within, and `on` where it is On.
func tall(lines ...string) []impl.Route {
	all := []string{"top wait 1 every 2 again 3"}
	for _, line := range lines {
		match := strings.TrimLeft(line, " ")
		ahead := line[:len(line)-len(match)]
		match, on := strings.CutSuffix(match, " on")
		told := "  " + ahead + "r"
		if match != "-" {
			told += " {" + match + "}"
		}
		told += " wait 1 every 2 again 3"
		if on {
			told += " on"
		}
		all = append(all, told)
	}
	return routesOf(all...)
}

func TestWhoTakesLabels(t *testing.T) {
	for _, c := range []struct {
		name   string
		routes []impl.Route
		labels []impl.Label
		want   string
	}{
		{"the first one alone", tall(), labelsOf("a", "1"), "0"},
		{"the first one alone, without labels", tall(), nil, "0"},
		{"no kid fits", tall(`a="2"`, `a="3"`), labelsOf("a", "1"), "0"},
		{"one kid fits", tall(`a="2"`, `a="1"`), labelsOf("a", "1"), "2"},
		{"the first kid fits", tall(`a="1"`, `a="2"`), labelsOf("a", "1"), "1"},
		{"both fit", tall(`a="1"`, `a="1"`), labelsOf("a", "1"), "1"},
		{"both fit, the first one On", tall(`a="1" on`, `a="1"`), labelsOf("a", "1"), "1 2"},
		{"both fit, both On", tall(`a="1" on`, `a="1" on`), labelsOf("a", "1"), "1 2"},
		{"both fit, the second one On", tall(`a="1"`, `a="1" on`), labelsOf("a", "1"), "1"},
		{"three fit, the first one On", tall(`a="1" on`, `a="1"`, `a="1"`), labelsOf("a", "1"), "1 2"},
		{"three fit, two of them On", tall(`a="1" on`, `a="1" on`, `a="1"`), labelsOf("a", "1"), "1 2 3"},
		{"three fit, the first and the last one On", tall(`a="1" on`, `a="1"`, `a="1" on`), labelsOf("a", "1"), "1 2"},
		{"one that does not fit and is not On ends nothing", tall(`a="2"`, `a="1"`), labelsOf("a", "1"), "2"},
		{"one that does not fit between those that are On", tall(`a="1" on`, `a="2"`, `a="1"`), labelsOf("a", "1"), "1 3"},
		{"one that is On and does not fit", tall(`a="2" on`, `a="1"`, `a="1"`), labelsOf("a", "1"), "2"},
		{"the last one alone is On and fits", tall(`a="2"`, `a="1" on`), labelsOf("a", "1"), "2"},
		{"a kid without matchers takes all", tall("-", `a="1"`), labelsOf("a", "1"), "1"},
		{"a kid without matchers that is On", tall("- on", `a="1"`), labelsOf("a", "1"), "1 2"},
		{"a kid without matchers, without labels", tall("- on", "-", "-"), nil, "1 2"},
		{"without labels", tall(`a="1"`, `a=""`, `a!="1"`), nil, "2"},
		{"without labels, by patterns", tall(`a=~"?"`, `a=~"*" on`, `a!~"?"`), nil, "2 3"},
		{"several matchers", tall(`a="1",b="2"`, `a="1",b!="2"`), labelsOf("a", "1"), "2"},
		{"one of several matchers does not fit", tall(`a="1",b="2"`), labelsOf("a", "1", "b", "3"), "0"},
		{"a kid of a kid", tall(`a="1"`, `  b="1"`), labelsOf("a", "1", "b", "1"), "2"},
		{"no kid of a kid", tall(`a="1"`, `  b="2"`, `  b="3"`), labelsOf("a", "1", "b", "1"), "1"},
		{"a kid of a kid that is not come to", tall(`a="2"`, `  b="1"`), labelsOf("a", "1", "b", "1"), "0"},
		{"a kid of a kid that is behind the end", tall(`a="1"`, `a="1"`, `  b="1"`), labelsOf("a", "1", "b", "1"), "1"},
		{"kids of kids that go on", tall(`a="1" on`, `  b="1" on`, `  b="1"`, `  b="1"`, `a="1"`, `  b="1"`, `  b="1" on`), labelsOf("a", "1", "b", "1"), "2 3 6"},
		{"kids of a kid that is not On go on for themselves", tall(`a="1"`, `  b="1" on`, `  b="1" on`, `a="1"`), labelsOf("a", "1", "b", "1"), "2 3"},
		{"a kid that is On takes itself, where none of its kids fits", tall(`a="1" on`, `  b="2"`, `a="1"`), labelsOf("a", "1", "b", "1"), "1 3"},
		{"a kid that is not On ends it, though none of its kids fits", tall(`a="1"`, `  b="2"`, `a="1"`), labelsOf("a", "1", "b", "1"), "1"},
		{"a kid of a kid that is not On ends nothing above it", tall(`a="1" on`, `  b="1"`, `a="1"`), labelsOf("a", "1", "b", "1"), "2 3"},
		{"a kid of a kid that is On does not go on above it", tall(`a="1"`, `  b="1" on`, `a="1"`), labelsOf("a", "1", "b", "1"), "2"},
		{"five within each other", tall("-", "  -", "    -", `      a="1"`), labelsOf("a", "1"), "4"},
		{"five within each other, the last one does not fit", tall("-", "  -", "    -", `      a="2"`), labelsOf("a", "1"), "3"},
		{"eight within each other", chain(8), labelsOf("a", "1"), "7"},
		{"names of series are labels too", tall(`_name="up"`), labelsOf("_name", "up"), "1"},
		{"twenty labels", tall(`n119="19"`), manyLabels(20), "1"},
	} {
		if got := takes(t, c.routes, c.labels); got != c.want {
			t.Errorf("%s: %q, not %q", c.name, got, c.want)
		}
	}
	l := tall(`a=~"*" on`, "-")
	for _, bad := range badLabels() {
		if got := checkTakers(t, l, bad); len(got) > 0 {
			t.Errorf("%v: %v", bad, got)
		}
	}
	for _, bad := range [][]impl.Route{nil, fan(41), chain(9), {route("r", 1)}, {route("r", 0), route("s", 0)}, {{}}, {{Receiver: "r", Every: 1, Again: 1, On: true}}, {{Receiver: "r", Every: 1, Again: 1, Match: matchersOf(`a="1"`)}}} {
		if got := checkTakers(t, bad, labelsOf("a", "1")); len(got) > 0 {
			t.Errorf("%s: %v", shortly(bad), got)
		}
	}
	all := fan(40)
	for i := 1; i < len(all); i++ {
		all[i].On = true
	}
	if got := checkTakers(t, all, nil); len(got) != 39 || got[0] != 1 || got[38] != 39 {
		t.Errorf("all go on: %v", got)
	}
}

func TestGroupsOfLabels(t *testing.T) {
	l := routesOf("top by b wait 1 every 2 again 3", "  none {a=\"9\"} wait 1 every 2 again 3", "  all by a,b,c wait 1 every 2 again 3", "    no by A,d,z wait 1 every 2 again 3", "  some by a,d wait 1 every 2 again 3")
	on := labelsOf("a", "1", "b", "2", "c", "3")
	for number, want := range map[int]string{
		0: `{b="2"}`, 1: `{}`, 2: `{a="1",b="2",c="3"}`, 3: `{}`, 4: `{a="1"}`, 5: `{}`, 6: `{}`, -1: `{}`, -2: `{}`, math.MaxInt: `{}`, math.MinInt: `{}`, 39: `{}`, 40: `{}`,
	} {
		if got := labelsTextModel(checkGroupOf(t, l, number, on)); got != want {
			t.Errorf("%d: %s, not %s", number, got, want)
		}
		if got := checkGroupOf(t, l, number, nil); len(got) > 0 {
			t.Errorf("%d without labels: %v", number, got)
		}
		for _, bad := range badLabels() {
			if got := checkGroupOf(t, l, number, bad); len(got) > 0 {
				t.Errorf("%d of %v: %v", number, bad, got)
			}
		}
	}
	for _, bad := range [][]impl.Route{nil, append(slices.Clone(l), route("more", 0)), l[1:], l[:4], {{By: []string{"a"}}}} {
		for number := -1; number < 6; number++ {
			if got := checkGroupOf(t, bad, number, on); len(got) > 0 {
				t.Errorf("%s, %d: %v", shortly(bad), number, got)
			}
		}
	}
	by := []string{"n100", "n101", "n102", "n103", "n104", "n105", "n106", "n107", "n108", "n109"}
	wide := []impl.Route{{Receiver: "r", By: by, Every: 1, Again: 1}}
	if got := checkGroupOf(t, wide, 0, manyLabels(20)); !slices.Equal(got, manyLabels(10)) {
		t.Errorf("ten names: %v", got)
	}
	if got := checkGroupOf(t, fan(40), 39, on); len(got) > 0 {
		t.Errorf("the last one: %v", got)
	}
}

// routes makes good routes at random, for the labels of randomLabels.
func (a *evalAsker) routes(most int) []impl.Route {
	var l []impl.Route
	var grow func(deep int)
	grow = func(deep int) {
		r := impl.Route{Receiver: oneOf(a.Rand, "mail", "pager", "on", "by", "r_1"), By: a.names(), Wait: a.time(), Every: max(a.time(), 1), Again: max(a.time(), 1), On: likely(a.Rand, 2), Match: randomMatchers(a.Rand, 1)}
		for n := a.Intn(4); likely(a.Rand, 2) && n < 20; n += a.Intn(9) + 1 {
			r.Mute = append(r.Mute, n)
		}
		if deep == 1 {
			r.On, r.Match = false, nil
		}
		at := len(l)
		l = append(l, r)
		for range a.Intn(5) {
			if deep < 8 && len(l) < most {
				l[at].Kids++
				grow(deep + 1)
			}
		}
	}
	for len(l) == 0 || len(l) == 1 && !likely(a.Rand, 10) {
		l = nil
		grow(1)
	}
	return l
}

// wronged is routes of which one thing is changed at random, mostly so that they are not good any more.
func (a *evalAsker) wronged(l []impl.Route) []impl.Route {
	l = laid(l, 0)
	at := a.Intn(len(l))
	wild := oneOf(a.Rand, -1, 0, 1, 2, 19, 20, maxTime, maxTime+1, math.MaxInt, math.MinInt)
	text := oneOf(a.Rand, "", "a", "1", "a b", "Z", strings.Repeat("n", 41))
	switch a.Intn(11) {
	case 0:
		l[at].Kids = wild
	case 1:
		l[at].Kids += a.Intn(3) - 1
	case 2:
		l[at].Wait = wild
	case 3:
		l[at].Every = wild
	case 4:
		l[at].Again = wild
	case 5:
		l[at].Mute = append(l[at].Mute, wild)
	case 6:
		l[at].By = append(l[at].By, text)
	case 7:
		l[at].Receiver = text
	case 8:
		l = slices.Delete(l, at, at+1)
	case 9:
		l[at].On = !l[at].On
	default:
		l[at].Match = append(l[at].Match, oneOf(a.Rand, badMatchers()...)...)
	}
	return l
}

// Promise 20, of routes at random.
func TestRoutesAtRandom(t *testing.T) {
	a := newEvalAsker(200)
	read, several, below, good, tries := 0, 0, 0, 0, 800
	for range tries {
		l := a.routes(40)
		if !checkRoutes(t, l) {
			t.Fatalf("not good: %s", shortly(l))
		}
		if text := impl.RoutesText(l); text != "" {
			read++
			if got := impl.ReadRoutes(text); !same(got, impl.RoutesRes{Routes: l}) || impl.RoutesText(got.Routes) != text {
				t.Fatalf("%q: %+v", text, got)
			}
		}
		for range 4 {
			labels := randomLabels(a.Rand)
			got := checkTakers(t, l, labels)
			if len(got) > 1 {
				several++
			}
			if got[0] > 0 {
				below++
			}
			for _, n := range got {
				checkGroupOf(t, l, n, labels)
			}
			checkGroupOf(t, l, a.Intn(len(l)+2)-1, labels)
		}
		bad := a.wronged(l)
		if checkRoutes(t, bad) {
			good++
		}
		checkTakers(t, bad, randomLabels(a.Rand))
		checkGroupOf(t, bad, a.Intn(len(l)+2)-1, randomLabels(a.Rand))
	}
	if read < tries/2 || several < tries/4 || below < tries/4 || good < tries/20 || good > tries*19/20 {
		t.Errorf("%d were read, %d were taken by several, %d by another one than the first, %d were good", read, several, below, good)
	}
}

func TestTextsOfRoutesAtRandom(t *testing.T) {
	a := newEvalAsker(201)
	var errs [5]int
	for range 8000 {
		lines := strings.SplitAfter(impl.RoutesText(a.routes(8)), "\n")
		for range a.Intn(2) + 1 {
			at := a.Intn(len(lines))
			other := lines[a.Intn(len(lines))]
			switch a.Intn(6) {
			case 0:
				lines[at] = "  " + lines[at]
			case 1:
				lines[at] = strings.TrimPrefix(lines[at], "  ")
			case 2:
				lines[at] = other
			case 3:
				lines = slices.Insert(lines, at, other)
			case 4:
				words := strings.SplitAfter(lines[at], " ")
				w := a.Intn(len(words))
				words[w] = oneOf(a.Rand, "", words[w]+words[w], " ", "on", "0 ", "a ", words[a.Intn(len(words))])
				lines[at] = strings.Join(words, "")
			default:
				lines = slices.Delete(lines, at, min(at+1, len(lines)-1))
			}
			if len(lines) == 0 {
				break
			}
		}
		errs[checkReadRoutes(t, strings.Join(lines, "")).Err]++
	}
	for err, least := range []int{1000, 0, 1000, 1000, 20} {
		if errs[err] < least {
			t.Errorf("%d texts of Err %d", errs[err], err)
		}
	}
}

// Promise 27: answers are new memory: what is written into one shows in no other, and in no argument.
func TestAnswersOfRoutesAreNew(t *testing.T) {
	text := "mail by a,b wait 1 every 2 again 3 mute 0,1\n  pager {a=\"1\"} by a,b wait 1 every 2 again 3 mute 0,1 on\n  chat {a=\"1\"} by a,b wait 1 every 2 again 3 mute 0,1\n"
	res, want := impl.ReadRoutes(text), readRoutesModel(text)
	for i := range res.Routes {
		l := laid(res.Routes, 0)
		r := &res.Routes[i]
		clear(r.Match[:cap(r.Match)])
		clear(r.By[:cap(r.By)])
		clear(r.Mute[:cap(r.Mute)])
		r.Receiver = ""
		for j := range l {
			if j != i && !same(res.Routes[j], l[j]) {
				t.Fatalf("what is written into %d shows in %d", i, j)
			}
		}
	}
	clear(res.Routes[:cap(res.Routes)])
	if got := impl.ReadRoutes(text); !same(got, want) {
		t.Fatalf("read again: %+v", got)
	}
	l, kept := guarded(want.Routes)
	on, keptLabels := guarded(labelsOf("a", "1", "b", "2"))
	takers := impl.RoutesFor(l, on)
	for i := range takers[:cap(takers)] {
		takers[:cap(takers)][i] = 99
	}
	scribble(impl.GroupOf(l, 1, on))
	if !kept() || !keptLabels() || takes(t, want.Routes, on) != "1 2" || len(checkGroupOf(t, l, 1, on)) != 2 {
		t.Error("what is written into an answer shows")
	}
}
