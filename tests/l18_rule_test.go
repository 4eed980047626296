package tests

import (
	"fmt"
	"maps"
	"math"
	"regexp"
	"slices"
	"sort"
	"strconv"
	"strings"
	"testing"

	"loop.example/g00039/impl"
)

var (
	templateForm  = regexp.MustCompile(`^(?:[ -z|}~]|\{\{|\{[A-Za-z_][A-Za-z_0-9]{0,39}\})*$`)
	templatePlace = regexp.MustCompile(`\{\{|\{[^{}]*\}`)
)

func goodTemplateModel(text string) bool {
	return len(text) <= 200 && templateForm.MatchString(text)
}

func fillTemplateModel(text string, l []impl.Label, value int) string {
	if !goodTemplateModel(text) || !goodLabelsModel(l) {
		return ""
	}
	known := toModel(l)
	known["value"] = strconv.Itoa(value)
	return templatePlace.ReplaceAllStringFunc(text, func(place string) string {
		if place == "{{" {
			return "{"
		}
		return known[strings.Trim(place, "{}")]
	})
}

func checkFill(t *testing.T, text string, l []impl.Label, value int) string {
	t.Helper()
	if got := impl.GoodTemplate(text); got != goodTemplateModel(text) {
		t.Fatalf("GoodTemplate of %q: %v", text, got)
	}
	arg, kept := guarded(l)
	got := impl.FillTemplate(text, arg, value)
	if want := fillTemplateModel(text, l, value); got != want || !kept() {
		t.Fatalf("%q by %v and %d: %q, not %q", text, l, value, got, want)
	}
	return got
}

func TestTemplatesThatAreGood(t *testing.T) {
	name := strings.Repeat("n", 40)
	for text, want := range map[string]bool{
		"": true, " ": true, "~": true, "x": true, "}": true, "}}": true, "}{{": true, "{{": true, "{{{{": true, "{a}": true, "{_}": true, "{_name}": true, "{A9}": true, "{a}{b}": true, "{a}}": true, "{{a}": true, "{{}": true, "{{{a}": true, "{{{a}}": true, "{{{{{a}}}": true, "{value}": true, "a{{b}c{d}": true, "{" + name + "}": true, "|": true, `"\$`: true,
		"{": false, "x{": false, "{{{": false, "{{{{{": false, "{}": false, "{a": false, "{a}{": false, "{a{b}": false, "{a{{": false, "{a}{b": false, "{ a}": false, "{a }": false, "{a b}": false, "{ }": false, "{9}": false, "{9a}": false, "{a-b}": false, "{a.b}": false, "{$1}": false, "{é}": false, "{{{}": false, "{{{ a}": false, "{ {": false, "{" + name + "n}": false, "{" + name: false,
		"\x1f": false, "\x7f": false, "\x80": false, "\n": false, "a\tb": false, "\x00": false, "é": false, "{a\n}": false, "{a}\n": false,
	} {
		checkFill(t, text, nil, 0)
		if got := impl.GoodTemplate(text); got != want {
			t.Errorf("%q: %v", text, got)
		}
	}
	for c := range 256 {
		text := string([]byte{'a', byte(c), 'b'})
		if want := c >= 32 && c <= 126 && c != '{'; impl.GoodTemplate(text) != want {
			t.Errorf("byte %d", c)
		}
		checkFill(t, text, nil, 7)
		checkFill(t, "{"+text+"}", labelsOf("a_b", "x", "aab", "y"), 7)
	}
	for n, want := range map[int]bool{199: true, 200: true, 201: false, 1 << 16: false} {
		for _, piece := range []string{"x", "}", "{{", "{a}", "{value}"} {
			text := strings.Repeat(piece, n/len(piece))
			text += strings.Repeat("z", n-len(text))
			if impl.GoodTemplate(text) != want {
				t.Errorf("%d bytes of %s", n, piece)
			}
			checkFill(t, text, labelsOf("a", strings.Repeat("v", 100)), math.MinInt)
		}
	}
}

func TestTemplatesAreFilled(t *testing.T) {
	l := labelsOf("A", "{a}", "_name", "up", "a", "1", "b", "{{", "value", "mine", "z", "}")
	for _, c := range []struct {
		text  string
		value int
		want  string
	}{
		{"", 5, ""}, {"plain }", 5, "plain }"}, {"{a}", 5, "1"}, {"{none}", 5, ""}, {"<{none}>", 5, "<>"}, {"{a}{a}{_name}", 5, "11up"},
		{"{value}", 0, "0"}, {"{value}", 7, "7"}, {"{value}", -3, "-3"}, {"{value}", math.MinInt, "-9223372036854775808"}, {"{value}", math.MaxInt, "9223372036854775807"}, {"{value}{value}", 12, "1212"}, {"{Value} {values} {valu}", 5, "  "},
		{"{{", 5, "{"}, {"{{a}", 5, "{a}"}, {"{{{a}}", 5, "{1}"}, {"{{{{{a}", 5, "{{1"}, {"{{value}", 5, "{value}"}, {"}{a}{{", 5, "}1{"},
		// What a label says is not filled again.
		{"{A}", 5, "{a}"}, {"{A}{b}{z}", 5, "{a}{{}"}, {"{b}a}", 5, "{{a}"},
		{"{a", 5, ""}, {"{a} {", 5, ""}, {"{a}\n", 5, ""}, {"{ a}", 5, ""},
	} {
		if got := checkFill(t, c.text, l, c.value); got != c.want {
			t.Errorf("%q: %q, not %q", c.text, got, c.want)
		}
	}
	if got := checkFill(t, "{value}|{a}", nil, 4); got != "4|" {
		t.Errorf("without labels: %q", got)
	}
	if got := checkFill(t, "{n119}{n100}", manyLabels(20), 4); got != "190" {
		t.Errorf("20 labels: %q", got)
	}
	for _, bad := range badLabels() {
		if got := checkFill(t, "x {value}", bad, 4); got != "" {
			t.Errorf("%v: %q", bad, got)
		}
	}
	a := newEvalAsker(180)
	good := 0
	for range 30000 {
		text := ""
		for range a.Intn(7) {
			text += oneOf(a.Rand, "{", "{{", "}", "{a}", "{value}", "{_name}", "{b", "a", " ", "{c}", "9", "{{a}")
		}
		if checkFill(t, text, oneOf(a.Rand, l, randomLabels(a.Rand)), a.value()); goodTemplateModel(text) {
			good++
		}
	}
	if good < 5000 || good > 25000 {
		t.Errorf("%d are good", good)
	}
}

func goodRuleModel(r impl.Rule) bool {
	l := toModel(r.Labels)
	kind := kindModel(r.Query)
	if !isNameModel(r.Name) || kind != "number" && kind != "vector" || !goodLabelsModel(r.Labels) || len(r.Labels) > 10 || l["_name"] != "" {
		return false
	}
	if r.Alert {
		return isWithin(r.For, 0, maxTime) && isWithin(r.Keep, 0, maxTime) && l["alert"] == "" && goodTemplateModel(r.Text)
	}
	return r.For == 0 && r.Keep == 0 && r.Text == ""
}

func goodGroupModel(g impl.RuleGroup) bool {
	bad := slices.ContainsFunc(g.Rules, func(r impl.Rule) bool { return !goodRuleModel(r) })
	return isWithin(g.Every, 1, 3600) && len(g.Rules) <= 30 && !bad
}

func checkGroup(t *testing.T, g impl.RuleGroup) bool {
	t.Helper()
	arg, kept := guarded(g)
	got := impl.GoodGroup(arg)
	if got != goodGroupModel(g) || !kept() {
		t.Fatalf("GoodGroup of %s: %v", shortly(g), got)
	}
	return got
}

// record is a rule that makes series, alert one that has alerts.
func record(name string, ask string, labels ...string) impl.Rule {
	return impl.Rule{Name: name, Query: plainQuery(ask), Labels: labelsOf(labels...)}
}

func alert(name string, ask string, long int, keep int, labels ...string) impl.Rule {
	return impl.Rule{Name: name, Alert: true, Query: plainQuery(ask), For: long, Keep: keep, Labels: labelsOf(labels...)}
}

func groupOf(every int, rules ...impl.Rule) impl.RuleGroup {
	return impl.RuleGroup{Every: every, Rules: rules}
}

// changed is a rule in which something is another.
func changed(r impl.Rule, change func(r *impl.Rule)) impl.Rule {
	change(&r)
	return r
}

func goodRules() []impl.Rule {
	plain, high := record("x", "m * 2", "a", "1"), alert("High", "m > 8", 10, 20, "kind", "k")
	out := []impl.Rule{plain, high, record("_", "1"), record(strings.Repeat("n", 40), "time()"), record("sum", "m"), record("alerts", "m"), record("x", "m", "alert", "mine"), record("x", "m", "state", "s"), alert("a9", "1", 0, 0), alert("A", "m", maxTime, maxTime), alert("alert", "m", 1, 1, "state", "mine"), alert("rate", "vector(1)", 0, 0)}
	for _, n := range []int{0, 1, 10} {
		l := manyLabels(n)
		out = append(out, changed(plain, func(r *impl.Rule) { r.Labels = l }), changed(high, func(r *impl.Rule) { r.Labels = l }))
	}
	for _, text := range []string{"", "}", "{{", "{job}: {value}", strings.Repeat("x", 200)} {
		out = append(out, changed(high, func(r *impl.Rule) { r.Text = text }))
	}
	for _, ask := range []string{"5", "-5", "time() + 1", "m", "m > 1", "sum(m)", "scalar(m)", `{a="1"}`, "rate(m[5])", "count_over(m[10:5])", "m and m", "1 == bool 1"} {
		out = append(out, record("x", ask), alert("x", ask, 0, 0))
	}
	for _, q := range [][]impl.Query{wideQuery(60), deepQuery(12)} {
		out = append(out, changed(plain, func(r *impl.Rule) { r.Query = q }), changed(high, func(r *impl.Rule) { r.Query = q }))
	}
	return out
}

// badRules are rules that are not good, each in one way.
func badRules() []impl.Rule {
	plain, high := record("x", "m * 2", "a", "1"), alert("High", "m > 8", 10, 20, "kind", "k")
	out := []impl.Rule{{}, {Alert: true}}
	both := func(change func(r *impl.Rule)) {
		out = append(out, changed(plain, change), changed(high, change))
	}
	for _, name := range []string{"", "9", "9a", "a b", "a-b", "é", "a\n", "{a}", strings.Repeat("n", 41)} {
		both(func(r *impl.Rule) { r.Name = name })
	}
	asks := [][]impl.Query{nil, {{}}, {{Kind: impl.QNum, Num: -1}}, {{Kind: impl.QSelect}}, {{Kind: impl.QNeg, Kids: 1}}, append(plainQuery("m"), plainQuery("m")...), wideQuery(61), deepQuery(13)}
	for _, text := range []string{`"text"`, "m[5]", "(m)[10:5]", "1 == 1", "m and 1", `-"x"`, "sum(m[5])", "rate(m)"} {
		asks = append(asks, plainQuery(text))
	}
	for _, q := range asks {
		both(func(r *impl.Rule) { r.Query = q })
	}
	labels := append(badLabels(), manyLabels(11), manyLabels(20), labelsOf("_name", "x"), labelsOf("_name", "x", "a", "1"), labelsOf("A", "1", "_name", "x"))
	for _, l := range labels {
		both(func(r *impl.Rule) { r.Labels = l })
	}
	for _, n := range []int{-1, maxTime + 1, math.MinInt, math.MaxInt} {
		both(func(r *impl.Rule) { r.For = n })
		both(func(r *impl.Rule) { r.Keep = n })
	}
	for _, text := range []string{"{", "{a", "{}", "\n", "é", strings.Repeat("x", 201)} {
		both(func(r *impl.Rule) { r.Text = text })
	}
	for _, n := range []int{1, 10, maxTime} {
		out = append(out, changed(plain, func(r *impl.Rule) { r.For = n }), changed(plain, func(r *impl.Rule) { r.Keep = n }))
	}
	for _, text := range []string{"x", " ", "{value}"} {
		out = append(out, changed(plain, func(r *impl.Rule) { r.Text = text }))
	}
	for _, l := range [][]impl.Label{labelsOf("alert", "x"), labelsOf("a", "1", "alert", "High"), labelsOf("alert", "x", "z", "1")} {
		out = append(out, changed(high, func(r *impl.Rule) { r.Labels = l }))
	}
	return out
}

func TestGroupsThatAreGood(t *testing.T) {
	for _, every := range []int{1, 2, 15, 3599, 3600} {
		for i, r := range goodRules() {
			if !checkGroup(t, groupOf(every, r)) || !checkGroup(t, groupOf(every, r, r, record("x", "1"))) {
				t.Errorf("rule %d every %d is not good", i, every)
			}
		}
		if !checkGroup(t, groupOf(every)) {
			t.Errorf("no rules every %d", every)
		}
	}
	for _, every := range []int{0, -1, 3601, math.MinInt, math.MaxInt} {
		if checkGroup(t, groupOf(every)) || checkGroup(t, groupOf(every, goodRules()...)) {
			t.Errorf("every %d is good", every)
		}
	}
	for i, r := range badRules() {
		if checkGroup(t, groupOf(10, r)) || checkGroup(t, groupOf(10, record("x", "1"), alert("y", "1", 0, 0), r)) || checkGroup(t, groupOf(10, r, record("x", "1"))) {
			t.Errorf("bad rule %d is good: %s", i, shortly(r))
		}
	}
	for n, want := range map[int]bool{0: true, 1: true, 29: true, 30: true, 31: false, 60: false} {
		if got := checkGroup(t, groupOf(10, slices.Repeat([]impl.Rule{record("x", "m")}, n)...)); got != want {
			t.Errorf("%d rules: %v", n, got)
		}
	}
}

// ruleModel is a rule with what it remembers.
type ruleModel struct {
	impl.Rule
	number int
	active map[string]impl.Active
	// last has the labels of what was put with a Value the last time, by their texts.
	last map[string][]impl.Label
}

// knownModel joins a list and the first of some puts, as many as can be. What is written last stays, so the list is.
func knownModel(list []impl.Series, puts []impl.Put) []impl.Series {
	join := func(n int) []impl.Series {
		b := headBook{labels: map[string][]impl.Label{}, values: map[string]map[int]int{}}
		for _, p := range slices.Backward(puts[:n]) {
			b.write(p)
		}
		for _, s := range list {
			for _, x := range s.Samples {
				b.write(impl.Put{Labels: s.Labels, Time: x.Time, Value: x.Value})
			}
		}
		return seriesOf(b.labels, b.values)
	}
	if all := join(len(puts)); goodSeriesModel(all) {
		return all
	}
	tooMany := sort.Search(len(puts), func(n int) bool { return !goodSeriesModel(join(n)) })
	return join(tooMany - 1)
}

// byLabels tells all that stands under texts, rising by its labels.
func byLabels[T any](all map[string]T, labels func(x T) []impl.Label) []T {
	out := slices.Collect(maps.Values(all))
	slices.SortFunc(out, func(a, b T) int { return compareModel(labels(a), labels(b)) })
	return out
}

// calledModel gives labels to items, and leaves out those that are no good ones, or came already.
func calledModel(items []impl.Item, call func(l modelLabels)) []impl.Item {
	var out []impl.Item
	told := map[string]bool{}
	for _, x := range items {
		l := toModel(x.Labels)
		call(l)
		if goodLabelsModel(l.list()) && !told[l.text()] {
			told[l.text()] = true
			out = append(out, impl.Item{Labels: l.list(), Value: x.Value})
		}
	}
	return out
}

// putsModel tells the puts of what a rule tells at a time, and the marks of what it does not tell any more.
func (r *ruleModel) putsModel(told []impl.Item, time int) []impl.Put {
	var out []impl.Put
	now := map[string][]impl.Label{}
	for _, x := range told {
		now[labelsTextModel(x.Labels)] = x.Labels
		delete(r.last, labelsTextModel(x.Labels))
		out = append(out, impl.Put{Labels: x.Labels, Time: time, Value: x.Value})
	}
	for _, l := range byLabels(r.last, func(l []impl.Label) []impl.Label { return l }) {
		out = append(out, impl.Put{Labels: l, Time: time, Value: math.MinInt})
	}
	r.last = now
	return out
}

// alertsModel does what an Alert does with its items, and tells its events.
func (r *ruleModel) alertsModel(items []impl.Item, time int) []impl.AlertEvent {
	held := map[string]int{}
	was := map[string]int{}
	for _, x := range items {
		text := labelsTextModel(x.Labels)
		a, there := r.active[text]
		if !there {
			a = impl.Active{Rule: r.number, Labels: x.Labels, Since: time}
		}
		was[text] = a.State
		a.State = max(a.State, impl.AlertPending)
		if time-a.Since >= r.For {
			a.State = impl.AlertFiring
		}
		a.Held, a.Value = time, x.Value
		r.active[text], held[text] = a, 1
	}
	for text, a := range r.active {
		if held[text] > 0 {
			continue
		}
		was[text] = a.State
		if a.State == impl.AlertPending || time-a.Held >= r.Keep {
			a.State = impl.AlertGone
			r.active[text] = a
		}
	}
	var out []impl.AlertEvent
	for _, a := range byLabels(r.active, func(a impl.Active) []impl.Label { return a.Labels }) {
		text := labelsTextModel(a.Labels)
		if a.State != was[text] {
			out = append(out, impl.AlertEvent{Time: time, Rule: r.number, Labels: a.Labels, State: a.State, Value: a.Value, Text: fillTemplateModel(r.Text, a.Labels, a.Value)})
		}
		if a.State == impl.AlertGone {
			delete(r.active, text)
		}
	}
	return out
}

// alertItems are the series that tell of active alerts.
func (r *ruleModel) alertItems() []impl.Item {
	var out []impl.Item
	told := map[string]bool{}
	for _, a := range byLabels(r.active, func(a impl.Active) []impl.Label { return a.Labels }) {
		l := toModel(a.Labels)
		l["_name"], l["state"] = "alerts", map[int]string{1: "pending", 2: "firing"}[a.State]
		if goodLabelsModel(l.list()) && !told[l.text()] {
			told[l.text()] = true
			out = append(out, impl.Item{Labels: l.list(), Value: 1})
		}
	}
	return out
}

// turn asks a rule, and tells what comes of it.
func (r *ruleModel) turn(known []impl.Series, time int) impl.RuleRes {
	said := impl.EvalQuery(known, r.Query, time)
	if said.Err != 0 {
		return impl.RuleRes{Errs: []int{said.Err}}
	}
	items := said.Items
	if kindModel(r.Query) == "number" {
		items = []impl.Item{{Value: said.Number}}
	}
	items = calledModel(items, func(l modelLabels) {
		delete(l, "_name")
		maps.Copy(l, toModel(r.Labels))
		if r.Alert {
			l["alert"] = r.Name
		} else {
			l["_name"] = r.Name
		}
	})
	out := impl.RuleRes{Errs: []int{0}}
	if r.Alert {
		out.Events = r.alertsModel(items, time)
		items = r.alertItems()
	}
	out.Puts = r.putsModel(items, time)
	return out
}

// roundsModel tells the rounds of a group; false where they are too many, or the times are none.
func roundsModel(every int, from int, to int) ([]int, bool) {
	if !isWithin(from, 0, maxTime) || !isWithin(to, 0, maxTime) {
		return nil, false
	}
	var out []int
	for time := from + (every-from%every)%every; time <= to; time += every {
		if out = append(out, time); len(out) > 60 {
			return nil, false
		}
	}
	return out, true
}

func runRulesModel(g impl.RuleGroup, list []impl.Series, from int, to int) impl.RuleRes {
	if !goodGroupModel(g) || !goodSeriesModel(list) {
		return impl.RuleRes{}
	}
	var rules []*ruleModel
	for i, r := range g.Rules {
		rules = append(rules, &ruleModel{Rule: r, number: i, active: map[string]impl.Active{}})
	}
	var out impl.RuleRes
	rounds, _ := roundsModel(g.Every, from, to)
	for _, time := range rounds {
		for _, r := range rules {
			next := r.turn(knownModel(list, out.Puts), time)
			out.Puts = append(out.Puts, next.Puts...)
			out.Events = append(out.Events, next.Events...)
			out.Errs = append(out.Errs, next.Errs...)
		}
	}
	for _, r := range rules {
		out.Active = append(out.Active, byLabels(r.active, func(a impl.Active) []impl.Label { return a.Labels })...)
	}
	return out
}

func joined[T any](list []T, tell func(x T) string) string {
	var out []string
	for _, x := range list {
		out = append(out, tell(x))
	}
	return strings.Join(out, "; ")
}

// shortPuts tells puts shortly: each with its time, labels, and its Value or end.
func shortPuts(puts []impl.Put) string {
	return joined(puts, func(p impl.Put) string {
		value := strconv.Itoa(p.Value)
		if p.Value == math.MinInt {
			value = "end"
		}
		return fmt.Sprint(p.Time, " ", plainLabels(p.Labels), " ", value)
	})
}

var stateNames = map[int]string{1: "pending", 2: "firing", 3: "gone"}

// shortEvents tells events shortly: the time, the rule, the labels, the state and the Value, and the text behind it where there is one.
func shortEvents(events []impl.AlertEvent) string {
	return joined(events, func(e impl.AlertEvent) string {
		text := fmt.Sprint(e.Time, " #", e.Rule, " ", plainLabels(e.Labels), " ", stateNames[e.State], " ", e.Value)
		return strings.TrimSpace(text + " " + e.Text)
	})
}

// shortActive tells active alerts shortly: the rule, the labels, the state, since when, till when, and the Value.
func shortActive(active []impl.Active) string {
	return joined(active, func(a impl.Active) string {
		return fmt.Sprint("#", a.Rule, " ", plainLabels(a.Labels), " ", stateNames[a.State], " ", a.Since, " ", a.Held, " ", a.Value)
	})
}

func shortRun(r impl.RuleRes) string {
	return fmt.Sprint("puts: ", shortPuts(r.Puts), "\nevents: ", shortEvents(r.Events), "\nactive: ", shortActive(r.Active), "\nerrs: ", r.Errs)
}

// checkRules asks RunRules, and sees that it is what the model says, in memory of its own, with nothing written into.
func checkRules(t *testing.T, g impl.RuleGroup, list []impl.Series, from int, to int) impl.RuleRes {
	t.Helper()
	group, groupKept := guarded(g)
	arg, listKept := guarded(list)
	got := impl.RunRules(group, arg, from, to)
	if want := runRulesModel(g, list, from, to); !same(got, want) {
		for _, r := range g.Rules {
			t.Logf("%s %v %v %s", r.Name, r.Alert, r.Labels, longText(r.Query))
		}
		t.Fatalf("RunRules of %.3000s, %.3000s, %d, %d:\n%.3000s\nnot\n%.3000s", fmt.Sprint(g), rowsText(list), from, to, shortRun(got), shortRun(want))
	}
	checkOwn(t, got, group, arg)
	out := laid(got, 0)
	for _, p := range got.Puts {
		scribble(p.Labels)
	}
	for _, e := range got.Events {
		scribble(e.Labels)
	}
	for _, a := range got.Active {
		scribble(a.Labels)
	}
	if !groupKept() || !listKept() {
		t.Fatalf("RunRules of %s: written into", shortly(g))
	}
	return out
}

// ruleCase is a run, and what of its answer is looked at: what is - is not.
type ruleCase struct {
	name   string
	rules  []impl.Rule
	list   string
	to     int
	puts   string
	events string
	active string
	errs   string
}

// checkRuleCases runs rules from 0 on, every 10.
func checkRuleCases(t *testing.T, cases []ruleCase) {
	t.Helper()
	for _, c := range cases {
		r := checkRules(t, groupOf(10, c.rules...), plainSeries(c.list), 0, c.to)
		errs := ""
		for _, err := range r.Errs {
			errs += strconv.Itoa(err)
		}
		for _, x := range []struct{ what, got, want string }{{"puts", shortPuts(r.Puts), c.puts}, {"events", shortEvents(r.Events), c.events}, {"active", shortActive(r.Active), c.active}, {"errs", errs, c.errs}} {
			if x.want != "-" && x.got != x.want {
				t.Errorf("%s: %s\n%s\nnot\n%s", c.name, x.what, x.got, x.want)
			}
		}
	}
}

func TestRulesThatMakeSeries(t *testing.T) {
	rules := func(r ...impl.Rule) []impl.Rule { return r }
	const most = "9223372036854775807"
	checkRuleCases(t, []ruleCase{
		{"no rules", nil, "m 0:1", 20, "", "", "", ""},
		{"a number", rules(record("x", "time() + 1")), "m 0:1", 20, "0 x 1; 10 x 11; 20 x 21", "", "", "000"},
		{"a number with labels", rules(record("x", "0", "a", "1", "b", "2")), "m 0:1", 0, "0 x{a=1,b=2} 0", "", "", "0"},
		{"items in their order", rules(record("x", "m")), "m{a=2} 0:7; m{a=1} 0:5; m 0:3", 0, "0 x 3; 0 x{a=1} 5; 0 x{a=2} 7", "", "", "0"},
		{"bare items", rules(record("x", "m + 1")), "m{a=2} 0:7; n{a=1} 0:5", 0, "0 x{a=2} 8", "", "", "0"},
		{"its name counts", rules(record("x", "{a=\"1\"}")), "m{a=1} 0:7", 0, "0 x{a=1} 7", "", "", "0"},
		{"its labels count", rules(record("x", "m", "a", "mine", "c", "3")), "m{a=2,b=1} 0:7", 0, "0 x{a=mine,b=1,c=3} 7", "", "", "0"},
		{"a label alert", rules(record("x", "m", "alert", "mine", "state", "s")), "m{alert=2} 0:7", 0, "0 x{alert=mine,state=s} 7", "", "", "0"},
		{"alike by its name", rules(record("x", "{a=\"1\"}")), "m{a=1} 0:7; n{a=1} 0:8; n{a=1,b=2} 0:9; o{a=1} 0:10", 0, "0 x{a=1} 7; 0 x{a=1,b=2} 9", "", "", "0"},
		{"alike by its labels", rules(record("x", "m", "a", "mine")), "m{a=1} 0:7; m{a=2} 0:8; m{a=2,b=2} 0:9; m{b=1} 0:6", 0, "0 x{a=mine} 7; 0 x{a=mine,b=2} 9; 0 x{a=mine,b=1} 6", "", "", "0"},
		{"an order that its labels turn", rules(record("x", "m", "b", "0")), "m{a=1} 0:1; m{a=1,b=5,c=1} 0:2; m{a=1,c=0} 0:3", 0, "0 x{a=1,b=0} 1; 0 x{a=1,b=0,c=1} 2; 0 x{a=1,b=0,c=0} 3", "", "", "0"},
		{"what goes ends once", rules(record("x", "m")), "m{a=1} 0:5 10:end; m{a=2} 0:7", 30, "0 x{a=1} 5; 0 x{a=2} 7; 10 x{a=2} 7; 10 x{a=1} end; 20 x{a=2} 7; 30 x{a=2} 7", "", "", "0000"},
		{"what comes again", rules(record("x", "m")), "m{a=1} 0:5 10:end 30:6 40:end", 50, "0 x{a=1} 5; 10 x{a=1} end; 30 x{a=1} 6; 40 x{a=1} end", "", "", "000000"},
		{"marks rise behind the puts", rules(record("x", "m", "b", "0")), "m{a=1} 0:1 10:end; m{a=1,b=5,c=1} 0:2 10:end; m{a=1,c=0} 0:3 10:end; m{a=2} 0:4", 10, "0 x{a=1,b=0} 1; 0 x{a=1,b=0,c=1} 2; 0 x{a=1,b=0,c=0} 3; 0 x{a=2,b=0} 4; 10 x{a=2,b=0} 4; 10 x{a=1,b=0} end; 10 x{a=1,b=0,c=0} end; 10 x{a=1,b=0,c=1} end", "", "", "00"},
		{"what is told by another item goes on", rules(record("x", "{a=\"1\"}")), "m{a=1} 0:7 10:end; n{a=1} 0:8", 10, "0 x{a=1} 7; 10 x{a=1} 8", "", "", "00"},
		{"an Err puts nothing", rules(record("x", "1 / scalar(d)")), "d 0:1 10:0 20:5", 20, "0 x 1; 20 x 0", "", "", "050"},
		{"an Err and what goes with it", rules(record("x", "m * (1 / scalar(d))")), "d 0:1 10:0 20:1; m{a=1} 0:5 10:end; m{a=2} 0:7", 30, "0 x{a=1} 5; 0 x{a=2} 7; 20 x{a=2} 7; 20 x{a=1} end; 30 x{a=2} 7", "", "", "0500"},
		{"several Errs", rules(record("x", "m * (1 / scalar(d))")), "d 0:1 10:0 40:1; m{a=1} 0:5 20:end; m{a=2} 0:7 20:end 30:8; m{a=3} 20:1 30:end", 40, "0 x{a=1} 5; 0 x{a=2} 7; 40 x{a=2} 8; 40 x{a=1} end", "", "", "05550"},
		{"Errs from the beginning on", rules(record("x", "m * (1 / scalar(d))")), "d 20:1; m 0:5 30:end", 30, "20 x 5; 30 x end", "", "", "5500"},
		{"two rules, one with an Err", rules(record("x", "1 / scalar(d)"), record("y", "m"), record("z", "m + on() m")), "d 0:0 10:1; m{a=1} 0:5; m{a=2} 0:6 10:end", 10, "0 y{a=1} 5; 0 y{a=2} 6; 10 x 1; 10 y{a=1} 5; 10 y{a=2} end; 10 z 10", "", "", "504000"},
		{"two rules of one name end each their own", rules(record("x", "m"), record("x", "n")), "m{a=1} 0:5 10:end; n{a=1} 0:6; n{a=2} 0:7 20:end", 20, "0 x{a=1} 5; 0 x{a=1} 6; 0 x{a=2} 7; 10 x{a=1} end; 10 x{a=1} 6; 10 x{a=2} 7; 20 x{a=1} 6; 20 x{a=2} end", "", "", "000000"},
		// An item whose Value is the least int is put with that Value, and ends when it is not put any more.
		{"the least int", rules(record("x", "m - 1")), "m 0:-" + most + " 10:5 20:-" + most + " 40:6 50:end", 60, "0 x end; 10 x 4; 20 x end; 30 x end; 40 x 5; 50 x end", "", "", "0000000"},
		{"the least int goes", rules(record("x", "m - 1")), "m 0:-" + most + " 10:end", 20, "0 x end; 10 x end", "", "", "000"},
		{"ends of the ints", rules(record("x", "m")), "m{a=1} 0:" + most + "; m{a=2} 0:-" + most, 0, "0 x{a=1} " + most + "; 0 x{a=2} -" + most, "", "", "0"},
	})
}

// Labels that are just as many as may be, and one more.
func TestRulesWithManyLabels(t *testing.T) {
	list := seriesList(labelled("m", 17), labelled("m", 18), labelled("m", 19))
	for _, c := range []struct {
		r    impl.Rule
		want []int
	}{
		{record("x", "m"), []int{18, 19, 20}}, {record("x", "m", "a", "1"), []int{19, 20}}, {record("x", "m", "a", "1", "b", "1"), []int{20}}, {record("x", "m", "a", "1", "b", "1", "c", "1"), nil},
		{record("x", "m", "n100", "z"), []int{18, 19, 20}}, {record("x", "m", "a", "1", "n100", "z"), []int{19, 20}}, {record("x", `label_set(-m, "a", "x", "n100", "*")`), []int{19, 20}}, {record("x", `label_set(-m, "a", "x", "n100", "*")`, "n101", "z"), []int{19, 20}},
	} {
		r := checkRules(t, groupOf(10, c.r), list, 0, 0)
		var got []int
		for _, p := range r.Puts {
			got = append(got, len(p.Labels))
		}
		if slices.Sort(got); !slices.Equal(got, c.want) || !slices.Equal(r.Errs, []int{0}) {
			t.Errorf("%s %v: %v, not %v", longText(c.r.Query), c.r.Labels, got, c.want)
		}
	}
	// Those of an alert: its own, and those of the series that tells of it.
	list = seriesList(labelled("m", 16), labelled("m", 17), labelled("m", 18), labelled("m", 19))
	for _, c := range []struct {
		r     impl.Rule
		own   []int
		state []int
	}{
		{alert("x", "m", 0, 0), []int{17, 18, 19, 20}, []int{19, 20}}, {alert("x", "m", 0, 0, "a", "1"), []int{18, 19, 20}, []int{20}}, {alert("x", "m", 0, 0, "a", "1", "b", "1", "c", "1"), []int{20}, nil}, {alert("x", "m", 5, 0, "a", "1", "b", "1", "c", "1", "d", "1"), nil, nil},
		{alert("x", "m", 5, 0, "n100", "z"), []int{17, 18, 19, 20}, []int{19, 20}}, {alert("x", "m", 5, 0, "state", "z"), []int{18, 19, 20}, []int{19, 20}}, {alert("x", `label_set(-m, "a", "x", "n100", "*")`, 0, 0), []int{18, 19, 20}, []int{20}}, {alert("x", `label_set(-m, "alert", "x", "n100", "*")`, 0, 0), []int{17, 18, 19, 20}, []int{19, 20}},
	} {
		r := checkRules(t, groupOf(10, c.r), list, 0, 0)
		var own, active, state []int
		for _, e := range r.Events {
			own = append(own, len(e.Labels))
		}
		for _, a := range r.Active {
			active = append(active, len(a.Labels))
		}
		for _, p := range r.Puts {
			state = append(state, len(p.Labels))
		}
		slices.Sort(own)
		slices.Sort(active)
		if slices.Sort(state); !slices.Equal(own, c.own) || !slices.Equal(active, c.own) || !slices.Equal(state, c.state) {
			t.Errorf("%s %v: %v, %v and %v, not %v and %v", longText(c.r.Query), c.r.Labels, own, active, state, c.own, c.state)
		}
	}
}

func TestWhatRulesKnow(t *testing.T) {
	rules := func(r ...impl.Rule) []impl.Rule { return r }
	checkRuleCases(t, []ruleCase{
		{"one that is ahead", rules(record("x", "m + 1"), record("y", "x * 2")), "m 0:1 10:5", 10, "0 x 2; 0 y 4; 10 x 6; 10 y 12", "", "", "0000"},
		{"one that is behind", rules(record("y", "x * 2"), record("x", "m + 1")), "m 0:1 10:5", 20, "0 x 2; 10 y 4; 10 x 6; 20 y 12; 20 x 6", "", "", "000000"},
		{"itself", rules(record("x", "x + 1 or vector(0)")), "m 0:1", 30, "0 x 0; 10 x 1; 20 x 2; 30 x 3", "", "", "0000"},
		{"rounds ahead", rules(record("x", "time()"), record("y", "sum_over(x[30])")), "m 0:1", 30, "0 x 0; 0 y 0; 10 x 10; 10 y 10; 20 x 20; 20 y 30; 30 x 30; 30 y 60", "", "", "00000000"},
		{"a mark", rules(record("x", "m"), record("y", "x"), record("z", "count_over(x[100])")), "m 0:1 10:end 20:2", 20, "0 x 1; 0 y 1; 0 z 1; 10 x end; 10 y end; 10 z 1; 20 x 2; 20 y 2; 20 z 2", "", "", "000000000"},
		{"the list's sample counts", rules(record("x", "m"), record("y", "x")), "m 0:1; x 0:7 20:8 30:end", 30, "0 x 1; 0 y 7; 10 x 1; 10 y 1; 20 x 1; 20 y 8; 30 x 1; 30 y end", "", "", "00000000"},
		{"puts beside the list's samples", rules(record("x", "m"), record("y", "sum_over(x[100])")), "m 0:1; x{a=1} 0:3; x 5:100 25:200", 20, "0 x 1; 0 y 1; 0 y{a=1} 3; 10 x 1; 10 y 102; 10 y{a=1} 3; 20 x 1; 20 y 103; 20 y{a=1} 3", "", "", "000000"},
		{"what is to come is not asked", rules(record("x", "m"), record("y", "x")), "m 5:1; x 100:9", 10, "10 x 1; 10 y 1", "", "", "0000"},
		{"the first put counts", rules(record("x", "1"), record("x", "2"), record("y", "x")), "m 0:1", 10, "0 x 1; 0 x 2; 0 y 1; 10 x 1; 10 x 2; 10 y 1", "", "", "000000"},
		{"a mark that is first counts", rules(record("x", "m"), record("x", "n"), record("y", "x")), "m 0:1 10:end; n 0:2", 20, "0 x 1; 0 x 2; 0 y 1; 10 x end; 10 x 2; 10 y end; 20 x 2; 20 y 2", "", "", "000000000"},
		{"alerts", rules(alert("A", "m > 3", 10, 0), record("x", `alerts{alert="A"}`), alert("B", `alerts{alert="A", state="firing"}`, 0, 0)), "m{a=1} 0:5 20:1", 20, "0 alerts{a=1,alert=A,state=pending} 1; 0 x{a=1,alert=A,state=pending} 1; 10 alerts{a=1,alert=A,state=firing} 1; 10 alerts{a=1,alert=A,state=pending} end; 10 x{a=1,alert=A,state=firing} 1; 10 x{a=1,alert=A,state=pending} end; 10 alerts{a=1,alert=B,state=firing} 1; 20 alerts{a=1,alert=A,state=firing} end; 20 x{a=1,alert=A,state=firing} end; 20 alerts{a=1,alert=B,state=firing} end", "0 #0 {a=1,alert=A} pending 5; 10 #0 {a=1,alert=A} firing 5; 10 #2 {a=1,alert=B,state=firing} firing 1; 20 #0 {a=1,alert=A} gone 5; 20 #2 {a=1,alert=B,state=firing} gone 1", "", "000000000"},
	})
}

// valuesPut tells the Values that a rule's series has, by its name.
func valuesPut(r impl.RuleRes, name string) []int {
	var out []int
	for _, p := range r.Puts {
		if impl.ValueOf(p.Labels, "_name") == name {
			out = append(out, p.Value)
		}
	}
	return out
}

// So many series that those that are put are no good list any more with the list's.
func TestRulesKnowNoMoreThanAGoodList(t *testing.T) {
	group := groupOf(10, record("x", "time()", "a", "1"), record("x", "time() + 1", "a", "2"), record("known", "count(x)"), record("sum", "sum_over(x[1000])"))
	for _, c := range []struct {
		n     int
		known []int
	}{
		// x{a=1} and x{a=2}, known, sum{a=1} and sum{a=2} are five.
		{195, []int{2, 2, 2}}, {197, []int{2, 2, 2}}, {198, []int{2, 2, 2}}, {199, []int{1, 1, 1}}, {200, nil},
	} {
		r := checkRules(t, group, manySeries(c.n), 0, 20)
		if got := valuesPut(r, "known"); !slices.Equal(got, c.known) {
			t.Errorf("%d series: %v, not %v", c.n, got, c.known)
		}
	}
	sums := func(n int) string { return fmt.Sprint(valuesPut(checkRules(t, group, manySeries(n), 0, 20), "sum")) }
	// With 198 known is the first that is left out: behind it nothing is taken any more, so no x of a later round.
	for n, want := range map[int]string{0: "[0 1 10 12 30 33]", 195: "[0 1 10 12 30 33]", 196: "[0 1 0 1 0 1]", 197: "[0 1 0 1 0 1]", 198: "[0 1 0 1 0 1]", 199: "[0 0 0]", 200: "[]"} {
		if got := sums(n); got != want {
			t.Errorf("%d series, sums: %s, not %s", n, got, want)
		}
	}
	// The list's series may be put into, as long as nothing else was left out.
	full := append(manySeries(199), impl.Series{Labels: labelsOf("_name", "x"), Samples: samplesAt(100, 5)})
	into := groupOf(10, record("x", "1"), record("y", "sum_over(x[1000])"))
	if got := valuesPut(checkRules(t, into, full, 0, 30), "y"); !slices.Equal(got, []int{1, 101, 101, 101}) {
		t.Errorf("200 series, put into: %v", got)
	}
	into = groupOf(10, record("x", "1"), record("x", "sum_over(x[1000])"))
	if got := valuesPut(checkRules(t, into, full, 0, 30), "x"); !slices.Equal(got, []int{1, 1, 1, 102, 1, 103, 1, 104}) {
		t.Errorf("200 series, put into alone: %v", got)
	}
}

// So many samples that those that are put are no good ones any more with the list's.
func TestRulesKnowNoMoreThanGoodSamples(t *testing.T) {
	group := groupOf(10, record("x", "1"), record("z", "time()"), record("y", "sum_over(x[10])"), record("w", "count_over(z[1000])"))
	for _, c := range []struct {
		samples []impl.Sample
		y, w    string
	}{
		{steadySamples(1997, 100, 1, 7), "[1 1 1 end]", "[1 2 3 3]"},
		{steadySamples(1998, 100, 1, 7), "[1 1 end]", "[1 2 2 2]"},
		{steadySamples(1999, 100, 1, 7), "[1 end]", "[1 1 1 1]"},
		{steadySamples(2000, 100, 1, 7), "[]", "[]"},
		// Puts at times that the list has are none too many.
		{steadySamples(2000, 0, 1, 7), "[7 70 70 70]", "[1 2 3 4]"},
		{append(samplesAt(9, 0, 10, 20), steadySamples(1996, 100, 1, 7)...), "[9 9 9 1]", "[1 2 3 4]"},
		{append(samplesAt(9, 0, 10, 20), steadySamples(1997, 100, 1, 7)...), "[9 9 9 end]", "[1 2 3 3]"},
	} {
		r := checkRules(t, group, []impl.Series{series("x", c.samples...)}, 0, 30)
		got := strings.ReplaceAll(fmt.Sprint(valuesPut(r, "y")), strconv.Itoa(math.MinInt), "end")
		if w := fmt.Sprint(valuesPut(r, "w")); w != c.w || got != c.y {
			t.Errorf("%d samples from %d on: %s and %s, not %s and %s", len(c.samples), c.samples[0].Time, got, w, c.y, c.w)
		}
	}
}

func TestRulesThatAlert(t *testing.T) {
	rules := func(r ...impl.Rule) []impl.Rule { return r }
	const on = "m{a=1} 0:5"
	a1 := func(long int, keep int) []impl.Rule { return rules(alert("A", "m > 3", long, keep)) }
	checkRuleCases(t, []ruleCase{
		{"at once", a1(0, 0), on, 20, "0 alerts{a=1,alert=A,state=firing} 1; 10 alerts{a=1,alert=A,state=firing} 1; 20 alerts{a=1,alert=A,state=firing} 1", "0 #0 {a=1,alert=A} firing 5", "#0 {a=1,alert=A} firing 0 20 5", "000"},
		{"never", a1(0, 0), "m{a=1} 0:3", 20, "", "", "", "000"},
		{"a number", rules(alert("A", "time()", 10, 0, "k", "v")), on, 10, "0 alerts{alert=A,k=v,state=pending} 1; 10 alerts{alert=A,k=v,state=firing} 1; 10 alerts{alert=A,k=v,state=pending} end", "0 #0 {alert=A,k=v} pending 0; 10 #0 {alert=A,k=v} firing 10", "#0 {alert=A,k=v} firing 0 10 10", "00"},
		{"For 1", a1(1, 0), on, 10, "-", "0 #0 {a=1,alert=A} pending 5; 10 #0 {a=1,alert=A} firing 5", "-", "-"},
		{"For 9", a1(9, 0), on, 10, "-", "0 #0 {a=1,alert=A} pending 5; 10 #0 {a=1,alert=A} firing 5", "-", "-"},
		{"For 10", a1(10, 0), on, 10, "-", "0 #0 {a=1,alert=A} pending 5; 10 #0 {a=1,alert=A} firing 5", "-", "-"},
		{"For 11", a1(11, 0), on, 20, "-", "0 #0 {a=1,alert=A} pending 5; 20 #0 {a=1,alert=A} firing 5", "-", "-"},
		{"For 20", a1(20, 0), on, 10, "0 alerts{a=1,alert=A,state=pending} 1; 10 alerts{a=1,alert=A,state=pending} 1", "0 #0 {a=1,alert=A} pending 5", "#0 {a=1,alert=A} pending 0 10 5", "-"},
		{"For ever", a1(maxTime, 0), on, 30, "-", "0 #0 {a=1,alert=A} pending 5", "#0 {a=1,alert=A} pending 0 30 5", "-"},
		{"ahead of For", a1(20, 100), "m{a=1} 0:5 20:1", 40, "0 alerts{a=1,alert=A,state=pending} 1; 10 alerts{a=1,alert=A,state=pending} 1; 20 alerts{a=1,alert=A,state=pending} end", "0 #0 {a=1,alert=A} pending 5; 20 #0 {a=1,alert=A} gone 5", "", "00000"},
		{"at For", a1(20, 0), "m{a=1} 0:5 30:1", 40, "-", "0 #0 {a=1,alert=A} pending 5; 20 #0 {a=1,alert=A} firing 5; 30 #0 {a=1,alert=A} gone 5", "", "-"},
		{"again ahead of For", a1(20, 0), "m{a=1} 0:5 10:1 20:6", 40, "-", "0 #0 {a=1,alert=A} pending 5; 10 #0 {a=1,alert=A} gone 5; 20 #0 {a=1,alert=A} pending 6; 40 #0 {a=1,alert=A} firing 6", "#0 {a=1,alert=A} firing 20 40 6", "-"},
		{"once at For", a1(20, 0), "m{a=1} 0:5 20:1 30:5", 50, "-", "0 #0 {a=1,alert=A} pending 5; 20 #0 {a=1,alert=A} gone 5; 30 #0 {a=1,alert=A} pending 5; 50 #0 {a=1,alert=A} firing 5", "-", "-"},
		{"other Values", a1(20, 0), "m{a=1} 0:5 10:7 20:9 30:4 40:2", 40, "-", "0 #0 {a=1,alert=A} pending 5; 20 #0 {a=1,alert=A} firing 9; 40 #0 {a=1,alert=A} gone 4", "", "-"},
		{"Since is the round", a1(0, 0), "m{a=1} 13:5", 30, "-", "20 #0 {a=1,alert=A} firing 5", "#0 {a=1,alert=A} firing 20 30 5", "-"},
		{"Keep 0", a1(0, 0), "m{a=1} 0:5 10:1", 20, "0 alerts{a=1,alert=A,state=firing} 1; 10 alerts{a=1,alert=A,state=firing} end", "0 #0 {a=1,alert=A} firing 5; 10 #0 {a=1,alert=A} gone 5", "", "000"},
		{"Keep 10", a1(0, 10), "m{a=1} 0:5 10:1", 20, "-", "0 #0 {a=1,alert=A} firing 5; 10 #0 {a=1,alert=A} gone 5", "", "000"},
		{"Keep 11", a1(0, 11), "m{a=1} 0:5 10:1", 20, "0 alerts{a=1,alert=A,state=firing} 1; 10 alerts{a=1,alert=A,state=firing} 1; 20 alerts{a=1,alert=A,state=firing} end", "0 #0 {a=1,alert=A} firing 5; 20 #0 {a=1,alert=A} gone 5", "", "000"},
		{"kept as it is", a1(0, 30), "m{a=1} 0:5 10:7 20:1", 30, "-", "0 #0 {a=1,alert=A} firing 5", "#0 {a=1,alert=A} firing 0 10 7", "-"},
		{"kept for ever", a1(0, maxTime), "m{a=1} 0:5 10:1", 590, "-", "0 #0 {a=1,alert=A} firing 5", "#0 {a=1,alert=A} firing 0 0 5", "-"},
		{"back ahead of Keep", a1(10, 30), "m{a=1} 0:5 20:1 30:6 40:1", 60, "-", "0 #0 {a=1,alert=A} pending 5; 10 #0 {a=1,alert=A} firing 5; 60 #0 {a=1,alert=A} gone 6", "", "-"},
		{"back just ahead of Keep", a1(10, 30), "m{a=1} 0:5 20:1 40:6", 60, "-", "0 #0 {a=1,alert=A} pending 5; 10 #0 {a=1,alert=A} firing 5", "#0 {a=1,alert=A} firing 0 60 6", "-"},
		{"back at Keep", a1(10, 20), "m{a=1} 0:5 20:1 30:6", 50, "-", "0 #0 {a=1,alert=A} pending 5; 10 #0 {a=1,alert=A} firing 5", "#0 {a=1,alert=A} firing 0 50 6", "-"},
		{"back behind Keep", a1(10, 20), "m{a=1} 0:5 20:1 40:6", 60, "-", "0 #0 {a=1,alert=A} pending 5; 10 #0 {a=1,alert=A} firing 5; 30 #0 {a=1,alert=A} gone 5; 40 #0 {a=1,alert=A} pending 6; 50 #0 {a=1,alert=A} firing 6", "#0 {a=1,alert=A} firing 40 60 6", "-"},
		{"a pending one has no Keep", a1(10, maxTime), "m{a=1} 0:5 10:1", 20, "-", "0 #0 {a=1,alert=A} pending 5; 10 #0 {a=1,alert=A} gone 5", "", "-"},
	})
}

func TestAlertsOfSeveralItems(t *testing.T) {
	rules := func(r ...impl.Rule) []impl.Rule { return r }
	checkRuleCases(t, []ruleCase{
		{"an Err while they are active", rules(alert("A", "m * (1 / scalar(d)) > 3", 20, 20)), "d 0:1 10:0 20:1 40:0 60:1; m{a=1} 0:5 40:1; m{a=2} 0:6 10:1", 60, "0 alerts{a=1,alert=A,state=pending} 1; 0 alerts{a=2,alert=A,state=pending} 1; 20 alerts{a=1,alert=A,state=firing} 1; 20 alerts{a=1,alert=A,state=pending} end; 20 alerts{a=2,alert=A,state=pending} end; 30 alerts{a=1,alert=A,state=firing} 1; 60 alerts{a=1,alert=A,state=firing} end", "0 #0 {a=1,alert=A} pending 5; 0 #0 {a=2,alert=A} pending 6; 20 #0 {a=1,alert=A} firing 5; 20 #0 {a=2,alert=A} gone 6; 60 #0 {a=1,alert=A} gone 5", "", "0500550"},
		{"an Err at the end", rules(alert("A", "m * (1 / scalar(d)) > 3", 20, 0)), "d 0:1 10:0; m{a=1} 0:5 10:1", 30, "0 alerts{a=1,alert=A,state=pending} 1", "0 #0 {a=1,alert=A} pending 5", "#0 {a=1,alert=A} pending 0 0 5", "0555"},
		{"alike by their names", rules(alert("A", `{a="1"}`, 0, 0)), "m{a=1} 0:7; n{a=1} 0:8; n{a=1,b=2} 0:9", 0, "-", "0 #0 {a=1,alert=A} firing 7; 0 #0 {a=1,alert=A,b=2} firing 9", "-", "-"},
		{"alike by its labels", rules(alert("A", "m", 0, 0, "a", "mine")), "m{a=1} 0:7; m{a=2} 0:8; m{b=1} 0:6", 0, "-", "0 #0 {a=mine,alert=A} firing 7; 0 #0 {a=mine,alert=A,b=1} firing 6", "-", "-"},
		{"one of those alike stays", rules(alert("A", "m", 0, 0, "a", "mine")), "m{a=1} 0:7 10:end; m{a=2} 0:8 20:end", 20, "-", "0 #0 {a=mine,alert=A} firing 7; 20 #0 {a=mine,alert=A} gone 8", "", "-"},
		{"its labels count", rules(alert("A", "m", 0, 0, "a", "mine", "c", "3")), "m{a=2,b=1} 0:7", 0, "0 alerts{a=mine,alert=A,b=1,c=3,state=firing} 1", "0 #0 {a=mine,alert=A,b=1,c=3} firing 7", "#0 {a=mine,alert=A,b=1,c=3} firing 0 0 7", "-"},
		{"its name counts", rules(alert("A", "m", 0, 0)), "m{alert=other} 0:7; m{alert=third} 0:8", 0, "0 alerts{alert=A,state=firing} 1", "0 #0 {alert=A} firing 7", "#0 {alert=A} firing 0 0 7", "-"},
		{"events rise", rules(alert("A", "m > 3", 10, 0)), "m{a=1} 0:1 10:5; m{a=2} 0:5 10:1; m{a=3} 0:5; m{a=4} 0:1 10:5; m 10:6", 10, "0 alerts{a=2,alert=A,state=pending} 1; 0 alerts{a=3,alert=A,state=pending} 1; 10 alerts{a=1,alert=A,state=pending} 1; 10 alerts{a=3,alert=A,state=firing} 1; 10 alerts{a=4,alert=A,state=pending} 1; 10 alerts{alert=A,state=pending} 1; 10 alerts{a=2,alert=A,state=pending} end; 10 alerts{a=3,alert=A,state=pending} end", "0 #0 {a=2,alert=A} pending 5; 0 #0 {a=3,alert=A} pending 5; 10 #0 {a=1,alert=A} pending 5; 10 #0 {a=2,alert=A} gone 5; 10 #0 {a=3,alert=A} firing 5; 10 #0 {a=4,alert=A} pending 5; 10 #0 {alert=A} pending 6", "#0 {a=1,alert=A} pending 10 10 5; #0 {a=3,alert=A} firing 0 10 5; #0 {a=4,alert=A} pending 10 10 5; #0 {alert=A} pending 10 10 6", "00"},
		{"events rise by own labels", rules(alert("A", "m", 0, 0, "b", "0")), "m{a=1} 0:1; m{a=1,b=5,c=1} 0:2; m{a=1,c=0} 0:3", 0, "-", "0 #0 {a=1,alert=A,b=0} firing 1; 0 #0 {a=1,alert=A,b=0,c=0} firing 3; 0 #0 {a=1,alert=A,b=0,c=1} firing 2", "-", "-"},
		{"puts are in the order of the alerts", rules(alert("A", "m", 10, 0)), "m{a=1} 5:1; m{a=1,z=1} 0:2; m{a=1,z=2} 0:2 20:end", 20, "0 alerts{a=1,alert=A,state=pending,z=1} 1; 0 alerts{a=1,alert=A,state=pending,z=2} 1; 10 alerts{a=1,alert=A,state=pending} 1; 10 alerts{a=1,alert=A,state=firing,z=1} 1; 10 alerts{a=1,alert=A,state=firing,z=2} 1; 10 alerts{a=1,alert=A,state=pending,z=1} end; 10 alerts{a=1,alert=A,state=pending,z=2} end; 20 alerts{a=1,alert=A,state=firing} 1; 20 alerts{a=1,alert=A,state=firing,z=1} 1; 20 alerts{a=1,alert=A,state=firing,z=2} end; 20 alerts{a=1,alert=A,state=pending} end", "-", "-", "-"},
		{"a state of their own", rules(alert("A", "m", 10, 0)), "m{state=x} 0:1; m{state=y} 0:2; m{state=z} 10:3", 20, "0 alerts{alert=A,state=pending} 1; 10 alerts{alert=A,state=firing} 1; 10 alerts{alert=A,state=pending} 1; 20 alerts{alert=A,state=firing} 1; 20 alerts{alert=A,state=pending} end", "0 #0 {alert=A,state=x} pending 1; 0 #0 {alert=A,state=y} pending 2; 10 #0 {alert=A,state=x} firing 1; 10 #0 {alert=A,state=y} firing 2; 10 #0 {alert=A,state=z} pending 3; 20 #0 {alert=A,state=z} firing 3", "-", "-"},
		{"the rule's state", rules(alert("A", "m", 10, 0, "state", "mine")), "m{state=x} 0:1", 0, "0 alerts{alert=A,state=pending} 1", "0 #0 {alert=A,state=mine} pending 1", "-", "-"},
		{"several rules", rules(alert("B", "m > 3", 0, 0), record("x", "m"), alert("A", "m > 5", 10, 0), alert("B", "m > 6", 0, 20)), "m{a=1} 0:7 20:4; m{a=2} 0:6", 20, "-", "0 #0 {a=1,alert=B} firing 7; 0 #0 {a=2,alert=B} firing 6; 0 #2 {a=1,alert=A} pending 7; 0 #2 {a=2,alert=A} pending 6; 0 #3 {a=1,alert=B} firing 7; 10 #2 {a=1,alert=A} firing 7; 10 #2 {a=2,alert=A} firing 6; 20 #2 {a=1,alert=A} gone 7", "#0 {a=1,alert=B} firing 0 20 4; #0 {a=2,alert=B} firing 0 20 6; #2 {a=2,alert=A} firing 0 20 6; #3 {a=1,alert=B} firing 0 10 7", "000000000000"},
		{"Errs of all rounds and rules", rules(alert("A", "1 / scalar(d)", 0, 0), record("x", "m + on() m"), alert("B", `label_join(m, "9", "", "a")`, 0, 0), record("y", "-{a=\"1\"}")), "d 0:0 10:1; m{a=1} 0:7; m{a=2} 0:6 20:end; n{a=1} 0:1 10:end", 20, "-", "-", "-", "546304600063"},
	})
}

func TestTextsOfAlerts(t *testing.T) {
	text := changed(alert("A", "m > 3", 10, 10, "c", "mine"), func(r *impl.Rule) { r.Text = "{alert} {a}{b} {c} {{{_name}{state}} {value}" })
	long := changed(alert("L", "m", 0, 0), func(r *impl.Rule) { r.Text = strings.Repeat("{a}", 66) + "{{" })
	checkRuleCases(t, []ruleCase{
		{"filled", []impl.Rule{text}, "m{a=1,c=x} 0:5 10:7 20:1; m{b=2,state=s} 0:6 10:1", 20, "-", "0 #0 {a=1,alert=A,c=mine} pending 5 A 1 mine {} 5; 0 #0 {alert=A,b=2,c=mine,state=s} pending 6 A 2 mine {s} 6; 10 #0 {a=1,alert=A,c=mine} firing 7 A 1 mine {} 7; 10 #0 {alert=A,b=2,c=mine,state=s} gone 6 A 2 mine {s} 6; 20 #0 {a=1,alert=A,c=mine} gone 7 A 1 mine {} 7", "-", "-"},
		{"long", []impl.Rule{long}, "m{a=xyz} 0:5", 0, "-", "0 #0 {a=xyz,alert=L} firing 5 " + strings.Repeat("xyz", 66) + "{", "-", "-"},
		{"the least int", []impl.Rule{changed(alert("A", "m - 1", 0, 0), func(r *impl.Rule) { r.Text = "{value}" })}, "m 0:-9223372036854775807", 0, "0 alerts{alert=A,state=firing} 1", "0 #0 {alert=A} firing -9223372036854775808 -9223372036854775808", "#0 {alert=A} firing 0 0 -9223372036854775808", "-"},
	})
}

func TestRoundsOfRules(t *testing.T) {
	list := plainSeries("m{a=1} 0:5")
	clock := record("x", "time()")
	for _, c := range []struct {
		every, from, to int
		want            []int
	}{
		{10, 0, 0, []int{0}}, {10, 0, 9, []int{0}}, {10, 0, 10, []int{0, 10}}, {10, 1, 10, []int{10}}, {10, 1, 9, nil}, {10, 5, 25, []int{10, 20}}, {10, 9, 21, []int{10, 20}}, {10, 10, 20, []int{10, 20}}, {10, 11, 19, nil}, {10, 20, 20, []int{20}}, {10, 20, 10, nil}, {10, 20, 0, nil}, {10, 21, 20, nil},
		{1, 0, 2, []int{0, 1, 2}}, {1, 7, 7, []int{7}}, {3600, 0, 3599, []int{0}}, {3600, 1, 3600, []int{3600}}, {3600, 1, 3599, nil}, {7, 13, 29, []int{14, 21, 28}},
		{1, maxTime, maxTime, []int{maxTime}}, {1000, maxTime - 1999, maxTime, []int{maxTime - 1000, maxTime}}, {3600, maxTime - 1, maxTime, nil}, {3600, maxTime - 3599, maxTime, []int{maxTime - 2800}}, {3600, maxTime, 0, nil}, {1, maxTime, 0, nil},
		{10, -1, 20, nil}, {10, 0, -1, nil}, {10, 0, maxTime + 1, nil}, {1000, maxTime, maxTime + 1, nil}, {1000, maxTime - 10, math.MaxInt, nil}, {10, maxTime + 1, maxTime + 1, nil}, {10, math.MinInt, 0, nil}, {10, 0, math.MaxInt, nil}, {10, math.MinInt, math.MaxInt, nil}, {10, math.MaxInt, math.MinInt, nil}, {1, 0, maxTime, nil}, {3600, 0, maxTime, nil},
	} {
		if got := checkRules(t, groupOf(c.every, clock), list, c.from, c.to); !slices.Equal(valuesPut(got, "x"), c.want) || len(got.Errs) != len(c.want) {
			t.Errorf("every %d from %d to %d: %v, not %v", c.every, c.from, c.to, shortPuts(got.Puts), c.want)
		}
	}
	for _, every := range []int{1, 10, 3600} {
		for _, from := range []int{0, 1, every, 7 * every, 7*every + 1} {
			first := (from + every - 1) / every * every
			for n, want := range map[int]int{59: 59, 60: 60, 61: 0, 100: 0, 1 << 20: 0} {
				for _, more := range []int{0, every - 1} {
					g := groupOf(every, clock, alert("A", "m", 0, 0))
					got := checkRules(t, g, list, from, first+(n-1)*every+more)
					if len(got.Errs) != 2*want || len(valuesPut(got, "x")) != want || want == 0 && !same(got, impl.RuleRes{}) {
						t.Errorf("%d rounds every %d from %d: %d", n, every, from, len(got.Errs))
					}
				}
			}
		}
	}
}

func TestRulesThatAreNotRun(t *testing.T) {
	list := plainSeries("m{a=1} 0:5")
	good := groupOf(10, record("x", "time()"), alert("A", "1", 0, 0))
	if got := checkRules(t, good, list, 0, 20); len(got.Errs) != 6 {
		t.Fatal(shortRun(got))
	}
	for i, r := range badRules() {
		if got := checkRules(t, groupOf(10, r), list, 0, 20); !same(got, impl.RuleRes{}) {
			t.Errorf("bad rule %d: %s", i, shortRun(got))
		}
		if got := checkRules(t, groupOf(10, append(slices.Clone(good.Rules), r)...), list, 0, 20); !same(got, impl.RuleRes{}) {
			t.Errorf("bad rule %d behind good ones: %s", i, shortRun(got))
		}
	}
	for _, every := range []int{0, -1, -10, 3601, math.MinInt, math.MaxInt} {
		if got := checkRules(t, groupOf(every, good.Rules...), list, 0, 20); !same(got, impl.RuleRes{}) {
			t.Errorf("every %d: %s", every, shortRun(got))
		}
	}
	for i, l := range badSeries() {
		if got := checkRules(t, good, l, 0, 20); !same(got, impl.RuleRes{}) {
			t.Errorf("list %d: %s", i, shortRun(got))
		}
	}
	if got := checkRules(t, groupOf(10, slices.Repeat(good.Rules, 16)...), list, 0, 20); !same(got, impl.RuleRes{}) {
		t.Errorf("32 rules: %s", shortRun(got))
	}
	if got := checkRules(t, good, nil, 0, 20); len(got.Errs) != 6 {
		t.Errorf("no series: %s", shortRun(got))
	}
}

// All limits at once: as many rules, rounds, series and labels as may be.
func TestRulesAtTheirLimits(t *testing.T) {
	var list []impl.Series
	for i := range 200 {
		list = append(list, impl.Series{Labels: labelsOf("_name", "m", "i", strconv.Itoa(1000+i)), Samples: steadySamples(2000, 0, 1, i)})
	}
	rule := changed(alert("A", "m", 300, 20), func(r *impl.Rule) {
		r.Labels, r.Text = manyLabels(10), strings.Repeat("{i}", 66)
	})
	r := impl.RunRules(groupOf(30, slices.Repeat([]impl.Rule{rule, record("x", "count(m)")}, 15)...), list, 0, 59*30)
	if len(r.Errs) != 1800 || len(r.Events) != 15*400 || len(r.Active) != 15*200 || len(r.Puts) != 60*15*201+15*200 {
		t.Errorf("%d Errs, %d events, %d active, %d puts", len(r.Errs), len(r.Events), len(r.Active), len(r.Puts))
	}
	for _, a := range r.Active {
		if a.State != impl.AlertFiring || a.Since != 0 || a.Held != 59*30 {
			t.Fatalf("%+v", a)
		}
	}
	checkOwn(t, r, list)
}

// conditions are series of which each says at the rounds whether a condition holds.
func (a evalAsker) conditions(every int, rounds int) []impl.Series {
	var out []impl.Series
	for i := range 1 + a.Intn(4) {
		s := impl.Series{Labels: labelsOf("_name", "m", "a", strconv.Itoa(i))}
		holds := likely(a.Rand, 2)
		for k := range rounds {
			if likely(a.Rand, 3) {
				holds = !holds
			}
			value := a.Intn(4)
			if holds {
				value = 4 + a.Intn(4)
			}
			s.Samples = append(s.Samples, impl.Sample{Time: k * every, Value: value})
		}
		out = append(out, s)
	}
	return out
}

// statesModel tells of each round what an alert is whose condition is held at some of them: 0, pending or firing. It looks at the rounds alone, not at what was ahead.
func statesModel(holds []bool, every int, long int, keep int) []int {
	out := make([]int, len(holds))
	for k := range holds {
		if holds[k] {
			out[k] = impl.AlertPending
		}
		// It fires if at a round up to this one it held as long as it is to, and was never without it for Keep since.
		for end := k; end >= 0 && out[k] != impl.AlertFiring; end-- {
			start := end
			for start > 0 && holds[start] && holds[start-1] {
				start--
			}
			held := holds[end] && (end-start)*every >= long
			last := end
			for next := end + 1; next <= k && held; next++ {
				if holds[next] {
					last = next
				} else if (next-last)*every >= keep {
					held = false
				}
			}
			if held {
				out[k] = impl.AlertFiring
			}
		}
	}
	return out
}

// Promise 18: an alert fires at a round just where its condition held at all rounds for as long as its For says; none goes while its condition holds, and one that fires goes by its Keep.
func TestAlertsFireWhereTheirConditionHeld(t *testing.T) {
	a := newEvalAsker(181)
	counts := map[string]int{}
	for range 400 {
		every, rounds := oneOf(a.Rand, 1, 7, 10, 300), 1+a.Intn(25)
		list := a.conditions(every, rounds)
		rule := alert("A", "m > 3", oneOf(a.Rand, 0, a.Intn(5)*every, a.Intn(6*every)), oneOf(a.Rand, 0, a.Intn(5)*every, a.Intn(6*every)))
		first := a.Intn(rounds)
		states := map[string][]int{}
		for _, s := range list {
			var holds []bool
			for _, x := range s.Samples[first:] {
				holds = append(holds, x.Value > 3)
			}
			text := plainLabels(labelsOf("a", impl.ValueOf(s.Labels, "a"), "alert", "A"))
			states[text] = statesModel(holds, every, rule.For, rule.Keep)
			if rule.Keep == 0 {
				checkFiresByFor(t, holds, states[text], every, rule.For)
			}
		}
		var events []string
		for k := first; k < rounds; k++ {
			r := checkRules(t, groupOf(every, rule), list, first*every, k*every)
			var want, got []string
			for text, of := range states {
				if state := of[k-first]; state > 0 {
					want = append(want, fmt.Sprint(text, " ", state))
				}
				was := 0
				if k > first {
					was = of[k-first-1]
				}
				now := of[k-first]
				if now != was {
					events = append(events, fmt.Sprint(k*every, " ", text, " ", stateNames[eventState(now)]))
				}
			}
			for _, x := range r.Active {
				got = append(got, fmt.Sprint(plainLabels(x.Labels), " ", x.State))
				counts[stateNames[x.State]]++
			}
			slices.Sort(want)
			if slices.Sort(got); !slices.Equal(got, want) {
				t.Fatalf("For %d, Keep %d, every %d, of %s up to %d: %v, not %v", rule.For, rule.Keep, every, rowsText(list), k*every, got, want)
			}
			var told []string
			for _, e := range r.Events {
				told = append(told, fmt.Sprint(e.Time, " ", plainLabels(e.Labels), " ", stateNames[e.State]))
				counts["told "+stateNames[e.State]]++
			}
			slices.Sort(told)
			if want := slices.Sorted(slices.Values(events)); !slices.Equal(told, want) {
				t.Fatalf("For %d, Keep %d, every %d, of %s up to %d: %v, not %v", rule.For, rule.Keep, every, rowsText(list), k*every, told, want)
			}
			checkGoing(t, r, list)
		}
	}
	for _, what := range []string{"pending", "firing", "told pending", "told firing", "told gone"} {
		if counts[what] < 1000 {
			t.Errorf("%s only %d times", what, counts[what])
		}
	}
}

// eventState tells the State that an event has: what is not active any more is gone.
func eventState(state int) int {
	if state == 0 {
		return impl.AlertGone
	}
	return state
}

// checkFiresByFor says once more, without Keep: it fires just where all rounds held, back to one that is so long ago as For says.
func checkFiresByFor(t *testing.T, holds []bool, states []int, every int, long int) {
	t.Helper()
	back := (long + every - 1) / every
	for k := range holds {
		fires := k >= back
		for i := max(0, k-back); i <= k; i++ {
			fires = fires && holds[i]
		}
		if fires != (states[k] == impl.AlertFiring) {
			t.Fatalf("For %d every %d: %v at %d of %v", long, every, fires, k, holds)
		}
	}
}

// checkGoing sees that nothing goes while its condition holds.
func checkGoing(t *testing.T, r impl.RuleRes, list []impl.Series) {
	t.Helper()
	for _, e := range r.Events {
		for _, s := range list {
			x, there := impl.SampleAt(s.Samples, e.Time, 0)
			if impl.ValueOf(s.Labels, "a") == impl.ValueOf(e.Labels, "a") && there && (x.Value > 3) == (e.State == impl.AlertGone) {
				t.Fatalf("%s where it is %d", shortEvents([]impl.AlertEvent{e}), x.Value)
			}
		}
	}
}

// rule is one whose name is often that of what others ask for, so that rules meet.
func (a evalAsker) rule() impl.Rule {
	q := a.question()
	for kind := impl.KindOfQuery(q); kind != "number" && kind != "vector"; kind = impl.KindOfQuery(q) {
		q = a.question()
	}
	switch {
	case likely(a.Rand, 3):
		q = askOp(impl.OpOr, askSelect(oneOf(a.Rand, "m", "n", "x", "alerts")), a.selection())
	case likely(a.Rand, 3):
		q = queryTree(impl.Query{Kind: impl.QOp, Op: oneOf(a.Rand, 6, 7, 8, 9, 10, 11)}, a.selection(), askNum(a.Intn(8)))
	case likely(a.Rand, 4):
		q = askOp(impl.OpMul, a.selection(), askOp(impl.OpDiv, askNum(1), askCall("scalar", a.selection())))
	}
	r := impl.Rule{Name: oneOf(a.Rand, "m", "n", "x", "h", "alerts"), Query: q}
	for _, name := range []string{"a", "b", "c", "state"} {
		if likely(a.Rand, 6) {
			r.Labels = append(r.Labels, impl.Label{Name: name, Value: oneOf(a.Rand, "1", "2", "3")})
		}
	}
	if r.Alert = likely(a.Rand, 2); r.Alert {
		r.For, r.Keep = oneOf(a.Rand, 0, a.Intn(60)), oneOf(a.Rand, 0, a.Intn(80))
		r.Text = oneOf(a.Rand, "", "{a}: {value}", "{{{alert}}")
	}
	return r
}

func (a evalAsker) group() impl.RuleGroup {
	g := impl.RuleGroup{Every: oneOf(a.Rand, 10, 10, 10, 1, 25, 100)}
	for range 1 + a.Intn(4) {
		g.Rules = append(g.Rules, a.rule())
	}
	return g
}

func TestRulesAtRandom(t *testing.T) {
	a := newEvalAsker(182)
	counts := map[string]int{}
	for range 1200 {
		g, from := a.group(), a.Intn(200)
		r := checkRules(t, g, a.list(), from, from+g.Every*a.Intn(12))
		for _, p := range r.Puts {
			if p.Value == math.MinInt {
				counts["marks"]++
			}
		}
		counts["puts"] += len(r.Puts)
		counts["active"] += len(r.Active)
		for _, e := range r.Events {
			counts[stateNames[e.State]]++
		}
		for _, err := range r.Errs {
			if err != 0 {
				counts["errs"]++
			}
		}
	}
	for what, least := range map[string]int{"marks": 1000, "puts": 10000, "active": 1000, "pending": 300, "firing": 500, "gone": 300, "errs": 500} {
		if counts[what] < least {
			t.Errorf("%s only %d times", what, counts[what])
		}
	}
}

// What came of rounds stays when more of them come.
func TestRoundsStayWhatTheyWere(t *testing.T) {
	a := newEvalAsker(183)
	for range 250 {
		g, list, from := a.group(), a.list(), a.Intn(100)
		last := from + g.Every*(2+a.Intn(10))
		all := checkRules(t, g, list, from, last)
		for to := from; to < last; to += g.Every {
			part := impl.RunRules(g, list, from, to)
			puts, events, errs := all.Puts[:len(part.Puts)], all.Events[:len(part.Events)], all.Errs[:len(part.Errs)]
			if !same(part.Puts, puts) || !same(part.Events, events) || !same(part.Errs, errs) || len(errs)%len(g.Rules) != 0 {
				t.Fatalf("up to %d and to %d:\n%s\n%s", to, last, shortRun(part), shortRun(all))
			}
		}
	}
}

// Promise 27: each function of rules answers at any arguments, writes nowhere and shares no memory.
func TestRulesOfAnything(t *testing.T) {
	a := newEvalAsker(184)
	edges := []int{0, 1, -1, 59, 60, 3600, 3601, maxTime - 1, maxTime, maxTime + 1, math.MaxInt, math.MinInt}
	edge := func(n int) int { return oneOf(a.Rand, a.Intn(n), a.Intn(n), a.Intn(n), oneOf(a.Rand, edges...)) }
	lists, bad := append(badSeries(), nil), badRules()
	good := 0
	for range 1500 {
		g := a.group()
		r := &g.Rules[a.Intn(len(g.Rules))]
		for range a.Intn(3) {
			switch a.Intn(9) {
			case 0:
				a.change(&r.Query[a.Intn(len(r.Query))])
			case 1:
				*oneOf(a.Rand, &r.For, &r.Keep) = edge(100)
			case 2:
				r.Alert = !r.Alert
			case 3:
				r.Labels = oneOf(a.Rand, badLabels()...)
			case 4:
				r.Text = randomOf(a.Rand, "{}a value_9\n", 8)
			case 5:
				r.Name = randomOf(a.Rand, "a_9 -", 3)
			case 6:
				*r = oneOf(a.Rand, bad...)
				r.Query = slices.Concat(r.Query, make([]impl.Query, 1))
			case 7:
				g.Every = edge(30)
			case 8:
				r.Query = slices.Delete(slices.Clone(r.Query), 0, 1)
				r.Query = append(r.Query, impl.Query{})
			}
		}
		list := a.list()
		if likely(a.Rand, 8) {
			list = oneOf(a.Rand, lists...)
		}
		if slices.ContainsFunc(r.Query, func(x impl.Query) bool { return x.Kind == impl.QSub && x.Num > 2000 }) {
			continue
		}
		if checkGroup(t, g) {
			good++
		}
		from := edge(100)
		checkRules(t, g, list, from, oneOf(a.Rand, from+a.Intn(10)*g.Every, edge(200)))
		checkFill(t, r.Text, r.Labels, edge(100))
	}
	if good < 300 || good > 1200 {
		t.Errorf("%d are good", good)
	}
	if got := impl.RunRules(impl.RuleGroup{Every: 10, Rules: make([]impl.Rule, 1<<16)}, nil, 0, 10); !same(got, impl.RuleRes{}) {
		t.Error("very many rules")
	}
}

// Each answer is new: what is written into one shows in no other, nor in what it was made of.
func TestRulesAreNew(t *testing.T) {
	list := plainSeries("m{a=1} 0:5 30:end; m{a=2} 0:7")
	g := groupOf(10, record("x", "m", "b", "1"), record("y", "x"), alert("A", "m", 10, 0, "c", "1"), alert("B", "alerts", 0, 30))
	first, second := impl.RunRules(g, list, 0, 40), impl.RunRules(g, list, 0, 40)
	checkOwn(t, []impl.RuleRes{first, second}, g, list)
	was := shortRun(second)
	for _, p := range first.Puts {
		scribble(p.Labels)
	}
	for _, e := range first.Events {
		scribble(e.Labels)
	}
	for _, x := range first.Active {
		scribble(x.Labels)
	}
	if shortRun(second) != was || shortRun(impl.RunRules(g, list, 0, 40)) != was || len(second.Active) == 0 {
		t.Error(was)
	}
}
