package tests

import (
	"fmt"
	"math"
	"math/rand"
	"slices"
	"sort"
	"strconv"
	"strings"
	"testing"

	"loop.example/g00039/impl"
)

func goodTargetModel(g impl.Target) bool {
	named := slices.ContainsFunc(g.Labels, func(x impl.Label) bool { return x.Name == "_name" })
	badRule := slices.ContainsFunc(g.Rules, func(r impl.Relabel) bool { return !goodRelabelModel(r) })
	return goodLabelsModel(g.Labels) && !named && len(g.Labels) <= 19 && g.Every >= 1 && g.Every <= 3600 && g.Limit >= 0 && g.Limit <= 1000 && len(g.Rules) <= 30 && !badRule
}

// joinModel lays all labels down under the names that they get, and asks at last whether they are good.
func joinModel(g impl.Target, l []impl.Label) ([]impl.Label, bool) {
	if !goodTargetModel(g) || !goodLabelsModel(l) {
		return nil, false
	}
	has := func(l []impl.Label, name string) bool {
		return slices.ContainsFunc(l, func(x impl.Label) bool { return x.Name == name })
	}
	var all []impl.Label
	for _, x := range l {
		if has(g.Labels, x.Name) && !g.Honor {
			all = append(all, impl.Label{Name: "exported_" + x.Name, Value: x.Value})
		} else {
			all = append(all, x)
		}
	}
	for _, x := range g.Labels {
		if !has(l, x.Name) || !g.Honor {
			all = append(all, x)
		}
	}
	sort.Slice(all, func(i, j int) bool { return all[i].Name < all[j].Name })
	if !goodLabelsModel(all) {
		return nil, false
	}
	return all, true
}

// givenModel is a put that a success gives, and whether it came of a Timed point.
type givenModel struct {
	put   impl.Put
	timed bool
}

// readPullModel tells the points of a pull as puts; false where it fails.
func readPullModel(g impl.Target, p impl.Pull) ([]givenModel, bool) {
	if p.Down {
		return nil, false
	}
	res := readFormModel(p.Text)
	if res.Err != 0 {
		return nil, false
	}
	var points []givenModel
	puts := flattenModel(res.Families, p.Time)
	for _, f := range res.Families {
		for _, x := range f.Points {
			points = append(points, givenModel{puts[len(points)], x.Timed})
		}
	}
	if g.Limit > 0 && len(points) > g.Limit {
		return nil, false
	}
	return points, true
}

func sameSeries(l []givenModel, labels []impl.Label) bool {
	return slices.ContainsFunc(l, func(x givenModel) bool { return slices.Equal(x.put.Labels, labels) })
}

// takenModel tells the numbers of the pulls that are taken, and what each of them gives, the points and the marks and the last three.
func takenModel(g impl.Target, pulls []impl.Pull) ([]int, [][]impl.Put) {
	var taken []int
	var out [][]impl.Put
	var last []givenModel
	row, next := 0, 0
	for i, p := range pulls {
		if p.Time < next {
			continue
		}
		points, ok := readPullModel(g, p)
		up := 1
		if ok {
			row, next = 0, p.Time
		} else {
			up, next = 0, p.Time+g.Every*[]int{1, 2, 4, 8, 16, 16, 16, 16}[min(row, 7)]
			row++
		}
		var given []givenModel
		var gives []impl.Put
		for _, x := range points {
			joined, ok := joinModel(g, x.put.Labels)
			if !ok {
				continue
			}
			labels, kept := relabelAllModel(joined, g.Rules)
			if !kept || sameSeries(given, labels) {
				continue
			}
			x.put.Labels = labels
			given = append(given, x)
			gives = append(gives, x.put)
		}
		var ended []impl.Put
		for _, x := range last {
			if !x.timed && !sameSeries(given, x.put.Labels) {
				ended = append(ended, impl.Put{Labels: x.put.Labels, Time: p.Time, Value: math.MinInt})
			}
		}
		sort.Slice(ended, func(i, j int) bool { return compareModel(ended[i].Labels, ended[j].Labels) < 0 })
		gives = append(gives, ended...)
		for _, x := range []struct {
			name  string
			value int
		}{{"pull_kept", len(given)}, {"pull_points", len(points)}, {"up", up}} {
			labels := withModel(g.Labels, "_name", x.name)
			gives = append(gives, impl.Put{Labels: labels, Time: p.Time, Value: x.value})
		}
		taken, out, last = append(taken, i), append(out, gives), given
	}
	return taken, out
}

func goodPullsModel(pulls []impl.Pull) bool {
	for i, p := range pulls {
		if p.Time < 0 || p.Time > maxTime || i > 0 && pulls[i-1].Time >= p.Time {
			return false
		}
	}
	return len(pulls) <= 60
}

func runModel(g impl.Target, pulls []impl.Pull) []impl.Put {
	if !goodTargetModel(g) || !goodPullsModel(pulls) {
		return nil
	}
	_, gives := takenModel(g, pulls)
	return slices.Concat(gives...)
}

// putLine tells a put in a line; a StaleMark is `end`.
func putLine(p impl.Put) string {
	value := strconv.Itoa(p.Value)
	if p.Value == impl.StaleMark {
		value = "end"
	}
	return fmt.Sprintf("%s %s @%d", labelsTextModel(p.Labels), value, p.Time)
}

func putLines(puts []impl.Put) []string {
	var out []string
	for _, p := range puts {
		out = append(out, putLine(p))
	}
	return out
}

// checkRun asks RunTarget, and sees that it is what the model says, in memory of its own, with nothing written into.
func checkRun(t *testing.T, g impl.Target, pulls []impl.Pull) []impl.Put {
	t.Helper()
	target, targetKept := guarded(g)
	list, listKept := guarded(pulls)
	got := impl.RunTarget(target, list)
	if want := runModel(g, pulls); !same(got, want) {
		t.Fatalf("RunTarget %+v, %+v:\n%s\nnot\n%s", g, pulls, strings.Join(putLines(got), "\n"), strings.Join(putLines(want), "\n"))
	}
	checkOwn(t, got, target, list)
	out := laid(got, 0)
	for _, p := range got {
		scribble(p.Labels)
	}
	if !targetKept() || !listKept() {
		t.Fatalf("RunTarget %+v, %+v: written into", g, pulls)
	}
	return out
}

func checkJoin(t *testing.T, g impl.Target, l []impl.Label) ([]impl.Label, bool) {
	t.Helper()
	target, targetKept := guarded(g)
	labels, labelsKept := guarded(l)
	got, ok := impl.JoinLabels(target, labels)
	if want, wantOk := joinModel(g, l); ok != wantOk || !slices.Equal(got, want) {
		t.Fatalf("JoinLabels %+v, %q: %q, %v, not %q, %v", g, l, got, ok, want, wantOk)
	}
	checkOwn(t, got, target, labels)
	out := slices.Clone(got)
	scribble(got)
	if !targetKept() || !labelsKept() {
		t.Fatalf("JoinLabels %+v, %q: written into", g, l)
	}
	return out, ok
}

// oneTarget is a good target with one label and no rules.
func oneTarget() impl.Target {
	return impl.Target{Labels: labelsOf("job", "a"), Every: 10}
}

// gaugeText is a form of one family `x` with these points.
func gaugeText(points ...string) string {
	text := "# kind x gauge\n"
	for _, p := range points {
		text += "x" + p + "\n"
	}
	return text + "# end\n"
}

// reportLines are the three lines that end what oneTarget gives by a pull.
func reportLines(time int, kept int, points int, up int) []string {
	return []string{
		fmt.Sprintf(`{_name="pull_kept",job="a"} %d @%d`, kept, time),
		fmt.Sprintf(`{_name="pull_points",job="a"} %d @%d`, points, time),
		fmt.Sprintf(`{_name="up",job="a"} %d @%d`, up, time),
	}
}

func rulesOf(t *testing.T, texts ...string) []impl.Relabel {
	t.Helper()
	var out []impl.Relabel
	for _, text := range texts {
		r, ok := impl.ReadRelabel(text)
		if !ok {
			t.Fatalf("no rule: %s", text)
		}
		out = append(out, r)
	}
	return out
}

// goodTargets meet the limits of a target just so.
func goodTargets() []impl.Target {
	var out []impl.Target
	for _, every := range []int{1, 2, 7, 60, 3599, 3600} {
		out = append(out, impl.Target{Every: every}, impl.Target{Labels: labelsOf("job", "a"), Every: every, Honor: true})
	}
	for _, limit := range []int{0, 1, 2, 999, 1000} {
		out = append(out, impl.Target{Every: 10, Limit: limit})
	}
	for _, l := range [][]impl.Label{{}, manyLabels(18), manyLabels(19), labelsOf("_names", "x"), labelsOf("_nam", "x"), labelsOf("_Name", "x"), labelsOf(strings.Repeat("z", 40), strings.Repeat("~", 100))} {
		out = append(out, impl.Target{Labels: l, Every: 10})
	}
	for _, r := range slices.Concat(fullRelabels(), limitRelabels()) {
		out = append(out, impl.Target{Every: 10, Rules: []impl.Relabel{r}})
	}
	return append(out, impl.Target{Labels: manyLabels(19), Every: 3600, Limit: 1000, Honor: true, Rules: slices.Repeat([]impl.Relabel{{Action: impl.RelKeep}}, 30)})
}

// badTargets are targets that are not good, each in one way.
func badTargets() []impl.Target {
	out := []impl.Target{{}}
	for _, every := range []int{0, -1, -10, 3601, 1 << 62, math.MaxInt, math.MinInt} {
		out = append(out, impl.Target{Every: every}, impl.Target{Labels: labelsOf("job", "a"), Every: every})
	}
	for _, limit := range []int{-1, 1001, math.MaxInt, math.MinInt} {
		out = append(out, impl.Target{Every: 10, Limit: limit})
	}
	for _, l := range append(badLabels(), labelsOf("_name", "x"), labelsOf("A", "1", "_name", "x", "b", "2"), manyLabels(20)) {
		out = append(out, impl.Target{Labels: l, Every: 10}, impl.Target{Labels: l, Every: 10, Honor: true})
	}
	for _, r := range badRelabels() {
		out = append(out, impl.Target{Every: 10, Rules: []impl.Relabel{r}}, impl.Target{Every: 10, Rules: []impl.Relabel{{Action: impl.RelKeep}, r}})
	}
	return append(out, impl.Target{Every: 10, Rules: slices.Repeat([]impl.Relabel{{Action: impl.RelKeep}}, 31)}, impl.Target{Every: 10, Rules: make([]impl.Relabel, 1)})
}

func TestGoodTargets(t *testing.T) {
	for want, all := range map[bool][]impl.Target{true: goodTargets(), false: badTargets()} {
		for _, g := range all {
			target, kept := guarded(g)
			if got := impl.GoodTarget(target); got != want || goodTargetModel(g) != want {
				t.Errorf("GoodTarget %+v: %v", g, got)
			}
			if !kept() {
				t.Errorf("GoodTarget %+v: written into", g)
			}
		}
	}
}

// Promise 27: a target that is not good has no offset, no times, no labels and no puts, whatever else is good.
func TestTargetsThatAreNotGood(t *testing.T) {
	pulls := []impl.Pull{{Time: 1, Text: gaugeText(" 1")}, {Time: 2, Down: true}}
	for _, g := range badTargets() {
		target, kept := guarded(g)
		if got := impl.OffsetOf(target); got != 0 {
			t.Errorf("OffsetOf %+v: %d", g, got)
		}
		if got := impl.PullTimes(target, 0, 100); len(got) > 0 {
			t.Errorf("PullTimes %+v: %d", g, got)
		}
		if !kept() {
			t.Errorf("%+v: written into", g)
		}
		for _, l := range [][]impl.Label{nil, labelsOf("a", "1"), labelsOf("job", "b")} {
			if got, ok := checkJoin(t, g, l); ok || len(got) > 0 {
				t.Errorf("JoinLabels %+v, %q: %q, %v", g, l, got, ok)
			}
		}
		for _, p := range [][]impl.Pull{nil, pulls} {
			if got := checkRun(t, g, p); len(got) > 0 {
				t.Errorf("RunTarget %+v: %+v", g, got)
			}
		}
	}
}

func TestOffsets(t *testing.T) {
	met := map[int]int{}
	r := rand.New(rand.NewSource(51))
	for i := range 3000 {
		g := impl.Target{Labels: pointLabels(r), Every: []int{1, 2, 7, 60, 3599, 3600, r.Intn(3600) + 1}[i%7], Limit: r.Intn(1001), Honor: i%2 == 0}
		target, kept := guarded(g)
		got := impl.OffsetOf(target)
		if want := slowMix([]byte(labelsTextModel(g.Labels))) % g.Every; got != want {
			t.Fatalf("OffsetOf %+v: %d, not %d", g, got, want)
		}
		if !kept() {
			t.Fatalf("OffsetOf %+v: written into", g)
		}
		if g.Every == 7 {
			met[got]++
		}
	}
	if len(met) != 7 {
		t.Errorf("of 7 offsets only %d are met", len(met))
	}
	// Only the labels and Every count.
	a, b := oneTarget(), oneTarget()
	b.Limit, b.Honor, b.Rules = 3, true, []impl.Relabel{{Action: impl.RelDrop}}
	if impl.OffsetOf(a) != impl.OffsetOf(b) {
		t.Error("the offset hangs on more than labels and Every")
	}
}

// pullTimesModel asks each time by itself, until there are too many.
func pullTimesModel(g impl.Target, from int, to int) []int {
	if !goodTargetModel(g) || from < 0 || from > maxTime || to < 0 || to > maxTime {
		return nil
	}
	offset := slowMix([]byte(labelsTextModel(g.Labels))) % g.Every
	var out []int
	for time := from; time <= to; time++ {
		if time%g.Every == offset {
			out = append(out, time)
		}
		if len(out) > 1000 {
			return nil
		}
	}
	return out
}

func checkTimes(t *testing.T, g impl.Target, from int, to int) []int {
	t.Helper()
	target, kept := guarded(g)
	got := impl.PullTimes(target, from, to)
	if want := pullTimesModel(g, from, to); !slices.Equal(got, want) {
		t.Fatalf("PullTimes %+v, %d, %d: %d, not %d", g, from, to, got, want)
	}
	if !kept() {
		t.Fatalf("PullTimes %+v: written into", g)
	}
	checkOwn(t, got)
	return got
}

func TestPullTimes(t *testing.T) {
	for _, every := range []int{1, 2, 7, 60} {
		for i := range 20 {
			g := impl.Target{Labels: labelsOf("n", strconv.Itoa(i)), Every: every}
			for from := range 2 * every {
				for _, to := range []int{0, from - 1, from, from + 1, from + every - 1, from + every, from + 2*every, from + 3*every + 1} {
					checkTimes(t, g, from, to)
					checkTimes(t, g, maxTime-to, maxTime-from)
				}
			}
		}
	}
	edges := []int{0, 1, 999, 1000, 1001, 1002, maxTime - 1001, maxTime - 1000, maxTime - 999, maxTime - 1, maxTime, maxTime + 1, -1, -2, -1000, math.MaxInt, math.MinInt, math.MaxInt - 1}
	for _, g := range []impl.Target{{Every: 1}, oneTarget()} {
		for _, from := range edges {
			for _, to := range edges {
				checkTimes(t, g, from, to)
			}
		}
	}
}

func TestThousandPullTimes(t *testing.T) {
	for _, every := range []int{1, 2, 10, 3600} {
		g := impl.Target{Labels: labelsOf("job", "b"), Every: every}
		o := impl.OffsetOf(g)
		for _, first := range []int{o, o + 5*every, maxTime - maxTime%every - 1001*every + o} {
			for _, x := range []struct{ from, to, want int }{
				{first, first + 999*every, 1000}, {first, first + 1000*every - 1, 1000}, {first, first + 1000*every, 0}, {first + 1, first + 1000*every, 1000}, {first + 1, first + 1000*every - 1, 999}, {first, first, 1}, {first, first - 1, 0}, {first, first + 1001*every, 0},
			} {
				if x.to > maxTime {
					x.want = 0
				}
				got := checkTimes(t, g, x.from, x.to)
				if len(got) != x.want {
					t.Errorf("every %d from %d to %d: %d times", every, x.from, x.to, len(got))
				}
			}
		}
		// So many that they could not be gone through are nothing, and soon.
		for range 1000 {
			if got := impl.PullTimes(g, 0, maxTime); len(got) > 0 {
				t.Errorf("every %d: %d times", every, len(got))
			}
		}
	}
}

func TestJoinedLabels(t *testing.T) {
	long31, long32 := strings.Repeat("n", 31), strings.Repeat("n", 32)
	for _, x := range []struct {
		target, series, plain, honor string
	}{
		{`{}`, `{}`, `{}`, `{}`},
		{`{job="a"}`, `{}`, `{job="a"}`, `{job="a"}`},
		{`{}`, `{job="b"}`, `{job="b"}`, `{job="b"}`},
		{`{job="a"}`, `{job="b"}`, `{exported_job="b",job="a"}`, `{job="b"}`},
		{`{job="a"}`, `{job="a"}`, `{exported_job="a",job="a"}`, `{job="a"}`},
		{`{job="a"}`, `{_name="up",k="1"}`, `{_name="up",job="a",k="1"}`, `{_name="up",job="a",k="1"}`},
		{`{a="1",z="2"}`, `{a="3",m="4",z="5"}`, `{a="1",exported_a="3",exported_z="5",m="4",z="2"}`, `{a="3",m="4",z="5"}`},
		{`{a="1",z="2"}`, `{z="5"}`, `{a="1",exported_z="5",z="2"}`, `{a="1",z="5"}`},
		// The new name is there already in the series, in the target, in both.
		{`{job="a"}`, `{exported_job="c",job="b"}`, ``, `{exported_job="c",job="b"}`},
		{`{exported_job="c",job="a"}`, `{job="b"}`, ``, `{exported_job="c",job="b"}`},
		{`{exported_job="c",job="a"}`, `{exported_job="d",job="b"}`, ``, `{exported_job="d",job="b"}`},
		// With a like value it is there as well.
		{`{job="a"}`, `{exported_job="b",job="b"}`, ``, `{exported_job="b",job="b"}`},
		{`{exported_job="b",job="a"}`, `{job="b"}`, ``, `{exported_job="b",job="b"}`},
		// It is there in both, but the series' one becomes another.
		{`{exported_job="c"}`, `{exported_job="d",job="b"}`, `{exported_exported_job="d",exported_job="c",job="b"}`, `{exported_job="d",job="b"}`},
		{`{job="a"}`, `{exported_job="c"}`, `{exported_job="c",job="a"}`, `{exported_job="c",job="a"}`},
		{`{exported_job="c"}`, `{job="b"}`, `{exported_job="c",job="b"}`, `{exported_job="c",job="b"}`},
		{`{` + long31 + `="1"}`, `{` + long31 + `="2"}`, `{exported_` + long31 + `="2",` + long31 + `="1"}`, `{` + long31 + `="2"}`},
		{`{` + long32 + `="1"}`, `{` + long32 + `="2"}`, ``, `{` + long32 + `="2"}`},
	} {
		target, _ := impl.ReadLabels(x.target)
		series, _ := impl.ReadLabels(x.series)
		for honor, want := range map[bool]string{false: x.plain, true: x.honor} {
			got, ok := checkJoin(t, impl.Target{Labels: target, Every: 10, Honor: honor}, series)
			if ok != (want != "") || ok && impl.LabelsText(got) != want || !ok && len(got) > 0 {
				t.Errorf("%s and %s, Honor %v: %q, %v", x.target, x.series, honor, got, ok)
			}
		}
	}
}

func TestManyJoinedLabels(t *testing.T) {
	for own := range 20 {
		for n := range 21 {
			for shared := range min(own, n) + 1 {
				l := append(slices.Clone(manyLabels(own)[:shared]), namedLabels("z", n-shared)...)
				for _, honor := range []bool{false, true} {
					_, ok := checkJoin(t, impl.Target{Labels: manyLabels(own), Every: 1, Honor: honor}, l)
					size := own + n
					if honor {
						size -= shared
					}
					if ok != (size <= 20) {
						t.Errorf("%d and %d, %d of them shared, Honor %v: %v", own, n, shared, honor, ok)
					}
				}
			}
		}
	}
}

func TestRandomJoins(t *testing.T) {
	r := rand.New(rand.NewSource(52))
	joined := 0
	for range 10000 {
		g := impl.Target{Labels: pointLabels(r), Every: 10, Honor: r.Intn(2) == 0}
		l := randomLabels(r)
		if r.Intn(3) == 0 {
			l = impl.WithLabel(l, "exported_a", "e")
		}
		if r.Intn(3) == 0 {
			g.Labels = impl.WithLabel(g.Labels, "exported_ab", "e")
		}
		if _, ok := checkJoin(t, g, l); ok {
			joined++
		}
	}
	if joined < 3000 || joined > 9900 {
		t.Errorf("joined %d of 10000", joined)
	}
	// The rules, the limit and the times of the target do not count.
	g := oneTarget()
	g.Rules, g.Limit = []impl.Relabel{{Action: impl.RelDrop}}, 1
	if got, ok := checkJoin(t, g, labelsOf("k", "1")); !ok || impl.LabelsText(got) != `{job="a",k="1"}` {
		t.Errorf("%q, %v", got, ok)
	}
	for _, l := range badLabels() {
		for _, honor := range []bool{false, true} {
			if got, ok := checkJoin(t, impl.Target{Every: 1, Honor: honor}, l); ok || len(got) > 0 {
				t.Errorf("%q is joined: %q", l, got)
			}
		}
	}
}

// pullCase is a target, its pulls at the times 1, 2, .. (the text `down` for one that is Down) and the lines that each of them gives ahead of the last three.
type pullCase struct {
	name  string
	rules []string
	pulls []string
	want  [][]string
}

func (x pullCase) check(t *testing.T, honor bool) {
	t.Helper()
	g := oneTarget()
	g.Every, g.Honor, g.Rules = 1, honor, rulesOf(t, x.rules...)
	var pulls []impl.Pull
	var want []string
	for i, text := range x.pulls {
		// Far apart, so that each of them is taken.
		p := impl.Pull{Time: 100 * (i + 1), Text: text, Down: text == "down"}
		pulls = append(pulls, p)
		kept := 0
		for _, line := range x.want[i] {
			line = strings.ReplaceAll(line, "@now", "@"+strconv.Itoa(p.Time))
			want = append(want, line)
			if !strings.Contains(line, " end @") {
				kept++
			}
		}
		res := impl.ReadForm(text)
		points := len(impl.Flatten(res.Families, 0))
		if p.Down || res.Err != 0 {
			want = append(want, reportLines(p.Time, 0, 0, 0)...)
		} else {
			want = append(want, reportLines(p.Time, kept, points, 1)...)
		}
	}
	if got := putLines(checkRun(t, g, pulls)); !slices.Equal(got, want) {
		t.Errorf("%s:\n%s\nnot\n%s", x.name, strings.Join(got, "\n"), strings.Join(want, "\n"))
	}
}

// What a series of `x` is called by oneTarget, and what is told of it.
func xLine(k string, told string) string {
	return `{_name="x",job="a",k="` + k + `"} ` + told
}

func TestWhichSeriesEnd(t *testing.T) {
	k := func(n string, value string) string { return `{k="` + n + `"} ` + value }
	none := "# end\n"
	for _, x := range []pullCase{
		{"told once and then no more", nil,
			[]string{gaugeText(k("1", "5"), k("2", "6")), gaugeText(k("2", "7")), gaugeText(k("2", "8"))},
			[][]string{{xLine("1", "5 @now"), xLine("2", "6 @now")}, {xLine("2", "7 @now"), xLine("1", "end @now")}, {xLine("2", "8 @now")}}},
		{"comes again", nil,
			[]string{gaugeText(k("1", "5")), none, gaugeText(k("1", "6")), gaugeText(k("1", "7")), none, none, gaugeText(k("1", "8")), none},
			[][]string{{xLine("1", "5 @now")}, {xLine("1", "end @now")}, {xLine("1", "6 @now")}, {xLine("1", "7 @now")}, {xLine("1", "end @now")}, nil, {xLine("1", "8 @now")}, {xLine("1", "end @now")}}},
		{"told by a Timed point", nil,
			[]string{gaugeText(k("1", "5 @3"), k("2", "6")), none, gaugeText(k("1", "5 @3")), "down"},
			[][]string{{xLine("1", "5 @3"), xLine("2", "6 @now")}, {xLine("2", "end @now")}, {xLine("1", "5 @3")}, nil}},
		{"first not Timed and then Timed", nil,
			[]string{gaugeText(k("1", "5")), gaugeText(k("1", "6 @0")), none, none},
			[][]string{{xLine("1", "5 @now")}, {xLine("1", "6 @0")}, nil, nil}},
		{"first Timed and then not", nil,
			[]string{gaugeText(k("1", "5 @1000000000000")), gaugeText(k("1", "6")), none, none},
			[][]string{{xLine("1", "5 @1000000000000")}, {xLine("1", "6 @now")}, {xLine("1", "end @now")}, nil}},
		{"Timed between two that are not", nil,
			[]string{gaugeText(k("1", "5")), gaugeText(k("1", "6 @7")), gaugeText(k("1", "7")), none},
			[][]string{{xLine("1", "5 @now")}, {xLine("1", "6 @7")}, {xLine("1", "7 @now")}, {xLine("1", "end @now")}}},
		{"a failure, and two in a row", nil,
			[]string{gaugeText(k("1", "5"), k("2", "6"), k("3", "7 @1")), "down", "no form", "down", gaugeText(k("1", "8")), "no form", none},
			[][]string{{xLine("1", "5 @now"), xLine("2", "6 @now"), xLine("3", "7 @1")}, {xLine("1", "end @now"), xLine("2", "end @now")}, nil, nil, {xLine("1", "8 @now")}, {xLine("1", "end @now")}, nil}},
		{"those of the last pull alone end with a failure", nil,
			[]string{gaugeText(k("1", "5"), k("2", "6")), gaugeText(k("2", "7")), "down"},
			[][]string{{xLine("1", "5 @now"), xLine("2", "6 @now")}, {xLine("2", "7 @now"), xLine("1", "end @now")}, {xLine("2", "end @now")}}},
		{"a failure first", nil,
			[]string{"down", gaugeText(k("1", "5"))},
			[][]string{nil, {xLine("1", "5 @now")}}},
		{"the order of those that end together", nil,
			[]string{gaugeText(k("b", "1"), k("B", "2"), ` 3`, k("a", "4"), `{a="z"} 5`, `{a="z",k="a"} 6`, `{z="0"} 7`, k("a~", "8"), k("a ", "9"), k("10", "10"), k("9", "11")), none},
			[][]string{
				{xLine("b", "1 @now"), xLine("B", "2 @now"), `{_name="x",job="a"} 3 @now`, xLine("a", "4 @now"), `{_name="x",a="z",job="a"} 5 @now`, `{_name="x",a="z",job="a",k="a"} 6 @now`, `{_name="x",job="a",z="0"} 7 @now`, xLine("a~", "8 @now"), xLine("a ", "9 @now"), xLine("10", "10 @now"), xLine("9", "11 @now")},
				{`{_name="x",a="z",job="a"} end @now`, `{_name="x",a="z",job="a",k="a"} end @now`, `{_name="x",job="a"} end @now`, xLine("10", "end @now"), xLine("9", "end @now"), xLine("B", "end @now"), xLine("a", "end @now"), xLine("a ", "end @now"), xLine("a~", "end @now"), xLine("b", "end @now"), `{_name="x",job="a",z="0"} end @now`},
			}},
		{"the order of what is given stays that of the points", nil,
			[]string{gaugeText(k("2", "1"), k("1", "2")), gaugeText(k("1", "3"), k("2", "4"))},
			[][]string{{xLine("2", "1 @now"), xLine("1", "2 @now")}, {xLine("1", "3 @now"), xLine("2", "4 @now")}}},
		{"a family that goes", nil,
			[]string{"# kind h hist\nh_bucket{le=\"inf\"} 3\nh_count 3\nh_sum 9\n# kind x gauge\nx 1\n# end\n", gaugeText(" 2")},
			[][]string{{`{_name="h_bucket",job="a",le="inf"} 3 @now`, `{_name="h_count",job="a"} 3 @now`, `{_name="h_sum",job="a"} 9 @now`, `{_name="x",job="a"} 1 @now`}, {`{_name="x",job="a"} 2 @now`, `{_name="h_bucket",job="a",le="inf"} end @now`, `{_name="h_count",job="a"} end @now`, `{_name="h_sum",job="a"} end @now`}}},
	} {
		x.check(t, false)
		x.check(t, true)
	}
}

func TestSeriesThatAreCalledOtherwise(t *testing.T) {
	for _, x := range []pullCase{
		{"the labels come to be others", []string{`set from v like "new" to k as "2"`, `dropnames like "v"`},
			[]string{gaugeText(`{k="1",v="old"} 5`), gaugeText(`{k="1",v="new"} 6`), gaugeText(`{k="2",v="other"} 7`)},
			[][]string{{xLine("1", "5 @now")}, {xLine("2", "6 @now"), xLine("1", "end @now")}, {xLine("2", "7 @now")}}},
		{"dropped by the rules from then on", []string{`drop from v like "*x"`, `dropnames like "v"`},
			[]string{gaugeText(`{k="1",v="y"} 5`, `{k="2",v="x"} 6`), gaugeText(`{k="1",v="x"} 5`, `{k="2",v="y"} 6`)},
			[][]string{{xLine("1", "5 @now")}, {xLine("2", "6 @now"), xLine("1", "end @now")}}},
		{"two puts of one pull with the same labels", []string{`dropnames like "v"`},
			[]string{gaugeText(`{k="1",v="1"} 5`, `{k="1",v="2"} 6`, `{k="1"} 7`, `{k="2",v="2"} 8`), gaugeText(`{k="1",v="2"} 6`, `{k="1",v="1"} 9`), "# end\n"},
			[][]string{{xLine("1", "5 @now"), xLine("2", "8 @now")}, {xLine("1", "6 @now"), xLine("2", "end @now")}, {xLine("1", "end @now")}}},
		{"the first of two is Timed", []string{`dropnames like "v"`},
			[]string{gaugeText(`{k="1",v="1"} 5 @4`, `{k="1",v="2"} 6`), "# end\n", "down"},
			[][]string{{xLine("1", "5 @4")}, nil, nil}},
		{"the second of two is Timed", []string{`dropnames like "v"`},
			[]string{gaugeText(`{k="1",v="2"} 6`, `{k="1",v="1"} 5 @4`), gaugeText(`{k="1",v="1"} 5 @4`, `{k="1",v="2"} 6`), "# end\n"},
			[][]string{{xLine("1", "6 @now")}, {xLine("1", "5 @4")}, nil}},
		{"the first of two is left out by the rules", []string{`drop from v like "1"`, `dropnames like "v"`},
			[]string{gaugeText(`{k="1",v="1"} 5 @4`, `{k="1",v="2"} 6`), "# end\n"},
			[][]string{{xLine("1", "6 @now")}, {xLine("1", "end @now")}}},
		{"no labels at all", []string{`keepnames like "none"`},
			[]string{gaugeText(`{k="1"} 5`, `{k="2"} 6`), "# end\n", gaugeText(` 7 @9`), "down"},
			[][]string{{`{} 5 @now`}, {`{} end @now`}, {`{} 7 @9`}, nil}},
		{"nothing is kept", []string{`drop`, `keep from k like "x"`},
			[]string{gaugeText(`{k="1"} 5`), gaugeText(`{k="x"} 5`), "down"},
			[][]string{nil, nil, nil}},
		{"the rules see what is joined", []string{`keep from job,exported_job sep "/" like "a/b"`},
			[]string{gaugeText(`{job="b"} 5`, `{job="c"} 6`, ` 7`), "# end\n"},
			[][]string{{`{_name="x",exported_job="b",job="a"} 5 @now`}, {`{_name="x",exported_job="b",job="a"} end @now`}}},
		{"joining makes them alike", nil,
			[]string{gaugeText(`{exported_job="b"} 5`, `{job="b"} 6`), gaugeText(`{job="b"} 7`), "# end\n"},
			[][]string{{`{_name="x",exported_job="b",job="a"} 5 @now`}, {`{_name="x",exported_job="b",job="a"} 7 @now`}, {`{_name="x",exported_job="b",job="a"} end @now`}}},
		{"joining is not good", nil,
			[]string{gaugeText(`{exported_job="c",job="b"} 5`, ` 6`), gaugeText(` 7`, `{exported_job="c",job="b"} 5`)},
			[][]string{{`{_name="x",job="a"} 6 @now`}, {`{_name="x",job="a"} 7 @now`}}},
		{"it tells what pulls tell of themselves", nil,
			[]string{"# kind up gauge\nup 7\n# end\n", "# kind up gauge\nup 8\n# end\n", "# end\n", "down"},
			[][]string{{`{_name="up",job="a"} 7 @now`}, {`{_name="up",job="a"} 8 @now`}, {`{_name="up",job="a"} end @now`}, nil}},
	} {
		x.check(t, false)
	}
	honored := pullCase{"with Honor", nil,
		[]string{gaugeText(`{job="b"} 5`, ` 6`, `{exported_job="c",job="b"} 7`, `{job="a"} 8`), "down"},
		[][]string{{`{_name="x",job="b"} 5 @now`, `{_name="x",job="a"} 6 @now`, `{_name="x",exported_job="c",job="b"} 7 @now`}, {`{_name="x",exported_job="c",job="b"} end @now`, `{_name="x",job="a"} end @now`, `{_name="x",job="b"} end @now`}}}
	honored.check(t, true)
}

// upLines tells of each pull that was taken its time and whether it was a success.
func upLines(puts []impl.Put) []string {
	var out []string
	for _, p := range puts {
		if impl.ValueOf(p.Labels, "_name") == "up" {
			out = append(out, fmt.Sprintf("%d @%d", p.Value, p.Time))
		}
	}
	return out
}

// failing tells seven failures in a row, each just when it may come, with pulls between that come too early, the last of them one ahead of it.
func failing(every int, start int) ([]impl.Pull, []string) {
	var pulls []impl.Pull
	var want []string
	time := start
	for k, wait := range []int{1, 2, 4, 8, 16, 16, 16} {
		pulls = append(pulls, impl.Pull{Time: time, Down: k%2 == 0, Text: "no form"})
		want = append(want, fmt.Sprintf("0 @%d", time))
		next := time + wait*every
		if next-1 > time {
			// It counts for nothing whether that would have been a success.
			if next-2 > time {
				pulls = append(pulls, impl.Pull{Time: time + 1, Down: true})
			}
			pulls = append(pulls, impl.Pull{Time: next - 1, Down: k%3 == 0, Text: gaugeText(" 1")})
		}
		time = next
	}
	return pulls, want
}

func TestWaitsGrow(t *testing.T) {
	good := gaugeText(" 1")
	for _, every := range []int{1, 2, 7, 10, 3599, 3600} {
		for _, start := range []int{0, 1, 12345, maxTime - 63*every - 33*every, maxTime - 63*every} {
			g := oneTarget()
			g.Every = every
			pulls, want := failing(every, start)
			if got := upLines(checkRun(t, g, pulls)); !slices.Equal(got, want) {
				t.Fatalf("every %d from %d on: %q, not %q", every, start, got, want)
			}
			// The next one is taken again, at most at the last time that there is, and sets it back.
			time := start + 63*every
			pulls, want = append(pulls, impl.Pull{Time: time, Text: good}), append(want, fmt.Sprintf("1 @%d", time))
			if got := upLines(checkRun(t, g, pulls)); !slices.Equal(got, want) {
				t.Fatalf("every %d from %d on, then a success: %q, not %q", every, start, got, want)
			}
			if time+33*every > maxTime {
				continue
			}
			pulls, want = append(pulls, impl.Pull{Time: time + 1, Text: good}), append(want, fmt.Sprintf("1 @%d", time+1))
			time += 2
			again, wantAgain := failing(every, time)
			again = slices.DeleteFunc(again, func(p impl.Pull) bool { return p.Time > time+31*every })
			wantAgain = wantAgain[:6]
			if got := upLines(checkRun(t, g, append(pulls, again...))); !slices.Equal(got, append(want, wantAgain...)) {
				t.Fatalf("every %d from %d on, set back: %q, not %q", every, start, got, append(want, wantAgain...))
			}
		}
	}
}

func TestWaitsAtTheEnds(t *testing.T) {
	good := gaugeText(" 1")
	for _, x := range []struct {
		every int
		pulls []impl.Pull
		want  []string
	}{
		{3600, []impl.Pull{{Time: 0, Text: good}}, []string{"1 @0"}},
		{3600, []impl.Pull{{Time: 0, Down: true}, {Time: 1, Text: good}, {Time: 3599, Text: good}, {Time: 3600, Text: good}}, []string{"0 @0", "1 @3600"}},
		{1, []impl.Pull{{Time: 0, Down: true}, {Time: 1, Down: true}, {Time: 2, Text: good}, {Time: 3, Text: good}}, []string{"0 @0", "0 @1", "1 @3"}},
		{3600, []impl.Pull{{Time: maxTime - 1, Down: true}, {Time: maxTime, Text: good}}, []string{fmt.Sprintf("0 @%d", maxTime-1)}},
		{1, []impl.Pull{{Time: maxTime - 1, Down: true}, {Time: maxTime, Text: good}}, []string{fmt.Sprintf("0 @%d", maxTime-1), fmt.Sprintf("1 @%d", maxTime)}},
		{3600, []impl.Pull{{Time: maxTime, Down: true}}, []string{fmt.Sprintf("0 @%d", maxTime)}},
		{3600, []impl.Pull{{Time: maxTime, Text: good}}, []string{fmt.Sprintf("1 @%d", maxTime)}},
		{10, []impl.Pull{{Time: 5, Down: true}, {Time: 900, Down: true}, {Time: 919, Text: good}, {Time: 920, Text: good}}, []string{"0 @5", "0 @900", "1 @920"}},
		// Successes may come as they like, whatever Every is.
		{3600, []impl.Pull{{Time: 0, Text: good}, {Time: 1, Text: good}, {Time: 2, Text: good}, {Time: maxTime, Text: good}}, []string{"1 @0", "1 @1", "1 @2", fmt.Sprintf("1 @%d", maxTime)}},
	} {
		g := oneTarget()
		g.Every = x.every
		if got := upLines(checkRun(t, g, x.pulls)); !slices.Equal(got, x.want) {
			t.Errorf("every %d, %+v: %q, not %q", x.every, x.pulls, got, x.want)
		}
	}
	// What is not taken does not make anything end, and does not come to be the last pull.
	g := oneTarget()
	pulls := []impl.Pull{{Time: 1, Text: gaugeText(" 1")}, {Time: 2, Down: true}, {Time: 3, Text: gaugeText(" 2")}, {Time: 11, Down: true}, {Time: 12, Text: gaugeText(" 3")}}
	want := slices.Concat(
		[]string{`{_name="x",job="a"} 1 @1`}, reportLines(1, 1, 1, 1),
		[]string{`{_name="x",job="a"} end @2`}, reportLines(2, 0, 0, 0),
		[]string{`{_name="x",job="a"} 3 @12`}, reportLines(12, 1, 1, 1))
	if got := putLines(checkRun(t, g, pulls)); !slices.Equal(got, want) {
		t.Errorf("%q, not %q", got, want)
	}
}

// thousandPoints is the text of a form with so many points, at most 100 a family.
func thousandPoints(n int) string {
	var text strings.Builder
	for i := range n {
		name := "f" + strconv.Itoa(10+i/100)
		if i%100 == 0 {
			text.WriteString("# kind " + name + " gauge\n")
		}
		text.WriteString(name + `{k="` + strconv.Itoa(i%100) + "\"} 1\n")
	}
	return text.String() + "# end\n"
}

func TestLimits(t *testing.T) {
	for _, x := range []struct {
		limit, points int
		rules         []string
		kept          int
	}{
		{0, 0, nil, 0}, {0, 1, nil, 1}, {0, 1001, nil, 1001}, {0, 1100, nil, 1100}, {1, 0, nil, 0}, {1, 1, nil, 1}, {1, 2, nil, -1}, {99, 99, nil, 99}, {99, 100, nil, -1}, {150, 150, nil, 150}, {150, 151, nil, -1}, {1000, 1000, nil, 1000}, {1000, 1001, nil, -1},
		// Points that are left out count too.
		{2, 2, []string{`drop`}, 0}, {2, 3, []string{`drop`}, -1}, {2, 2, []string{`drop from k like "1"`}, 1}, {2, 3, []string{`drop from k like "1|2"`}, -1}, {3, 3, []string{`dropnames like "k"`}, 1}, {3, 4, []string{`dropnames like "k"`}, -1}, {0, 4, []string{`drop`}, 0},
	} {
		g := oneTarget()
		g.Limit, g.Rules = x.limit, rulesOf(t, x.rules...)
		got := putLines(checkRun(t, g, []impl.Pull{{Time: 5, Text: thousandPoints(x.points)}}))
		want := reportLines(5, x.kept, x.points, 1)
		if x.kept < 0 {
			want = reportLines(5, 0, 0, 0)
		}
		if len(got) != max(x.kept, 0)+3 || !slices.Equal(got[len(got)-3:], want) {
			t.Errorf("limit %d, %d points, %q: %d puts, %q", x.limit, x.points, x.rules, len(got), got[len(got)-3:])
		}
	}
}

func TestPullsThatFail(t *testing.T) {
	good := gaugeText(` 4`)
	for _, x := range []struct {
		pull impl.Pull
		ok   bool
	}{
		{impl.Pull{Text: good}, true}, {impl.Pull{Text: "# end\n"}, true}, {impl.Pull{Text: good, Down: true}, false}, {impl.Pull{Down: true}, false}, {impl.Pull{Text: "no form", Down: true}, false},
		// Err 1, and just not that.
		{impl.Pull{Text: formTextModel(longForm(20000))}, true}, {impl.Pull{Text: formTextModel(longForm(20001))}, false}, {impl.Pull{Text: strings.Repeat("\n", 20001)}, false},
		// Err 2.
		{impl.Pull{}, false}, {impl.Pull{Text: good + "\n"}, false}, {impl.Pull{Text: good[:len(good)-1]}, false}, {impl.Pull{Text: "# kind x gauge\nx 4\n"}, false}, {impl.Pull{Text: gaugeText(` 4`, ` five`)}, false}, {impl.Pull{Text: gaugeText(`{} 4`)}, false},
		// Err 3.
		{impl.Pull{Text: gaugeText(` 4`, ` 5`)}, false}, {impl.Pull{Text: gaugeText(` -9223372036854775808`)}, false}, {impl.Pull{Text: "# kind x counter\nx_total -1\n# end\n"}, false}, {impl.Pull{Text: "# kind b gauge\n# kind a gauge\n# end\n"}, false},
	} {
		x.pull.Time = 3
		pulls := []impl.Pull{{Time: 2, Text: gaugeText(`{k="1"} 5`)}, x.pull, {Time: 4, Text: good}, {Time: 13, Text: good}}
		up := upLines(checkRun(t, oneTarget(), pulls))
		want := []string{"1 @2", "1 @3", "1 @4", "1 @13"}
		if !x.ok {
			want = []string{"1 @2", "0 @3", "1 @13"}
		}
		if !slices.Equal(up, want) {
			t.Errorf("%.60q: %q", x.pull.Text, up)
		}
	}
	// Of a point that is Timed, and of one that is not, at any time.
	for _, time := range []int{0, 1, maxTime - 1, maxTime} {
		got := putLines(checkRun(t, oneTarget(), []impl.Pull{{Time: time, Text: gaugeText(` 1`, `{k="1"} 2 @7`)}}))
		if got[0] != fmt.Sprintf(`{_name="x",job="a"} 1 @%d`, time) || got[1] != `{_name="x",job="a",k="1"} 2 @7` {
			t.Errorf("at %d: %q", time, got)
		}
	}
}

// randomPullText is mostly a form of few series, so that they go and come.
func randomPullText(r *rand.Rand) string {
	switch r.Intn(8) {
	case 0:
		return formTextModel(randomFamilies(r))
	case 1:
		return []string{"", "# end", "no form", "# end\n", gaugeText(` 1`, ` 2`)}[r.Intn(5)]
	}
	var points []string
	for _, l := range []string{``, `{k="1"}`, `{k="2"}`, `{job="b"}`, `{exported_job="b"}`, `{exported_job="c",job="b"}`, `{a="1",k="1"}`, `{a="2",k="1"}`} {
		switch r.Intn(5) {
		case 0, 1:
			points = append(points, fmt.Sprintf("%s %d", l, r.Intn(100)))
		case 2:
			points = append(points, fmt.Sprintf("%s %d @%d", l, r.Intn(100), r.Intn(200)))
		}
	}
	r.Shuffle(len(points), func(i, j int) { points[i], points[j] = points[j], points[i] })
	return gaugeText(points...)
}

func randomTarget(r *rand.Rand) impl.Target {
	g := impl.Target{Every: []int{1, 2, 5, 30}[r.Intn(4)], Honor: r.Intn(2) == 0}
	if r.Intn(4) > 0 {
		g.Labels = labelsOf("job", "a")
	}
	if r.Intn(4) == 0 {
		g.Labels = pointLabels(r)
	}
	if r.Intn(2) == 0 {
		g.Limit = r.Intn(6) + 1
	}
	for range r.Intn(3) {
		if r.Intn(2) == 0 {
			g.Rules = append(g.Rules, []impl.Relabel{{Action: 7, Pattern: "a"}, {Action: 7, Pattern: "k|job"}, {Action: 2, From: []string{"k"}, Pattern: "2"}, {Action: 6, Pattern: "_name|k"}}[r.Intn(4)])
		} else {
			g.Rules = append(g.Rules, mildRelabel(r))
		}
	}
	return g
}

func randomPulls(r *rand.Rand) []impl.Pull {
	var pulls []impl.Pull
	time := r.Intn(5)
	if r.Intn(4) == 0 {
		time = maxTime - 100 + r.Intn(50)
	}
	for range r.Intn(12) {
		pulls = append(pulls, impl.Pull{Time: time, Down: r.Intn(5) == 0, Text: randomPullText(r)})
		if time += 1 + r.Intn(8); time > maxTime {
			break
		}
	}
	return pulls
}

// checkTold holds promise 5: what is told stays, a series ends once, a pull that is taken gives `up` once and another nothing.
func checkTold(t *testing.T, g impl.Target, pulls []impl.Pull) int {
	t.Helper()
	all := impl.RunTarget(g, pulls)
	taken, _ := takenModel(g, pulls)
	last := 0
	for n := range len(pulls) + 1 {
		part := impl.RunTarget(g, pulls[:n])
		if len(part) > len(all) || !same(part, all[:len(part)]) {
			t.Fatalf("%+v: what %d of these pulls told does not stay: %+v", g, n, pulls)
		}
		if n == 0 {
			continue
		}
		told := part[last:]
		if !slices.Contains(taken, n-1) {
			if len(told) > 0 {
				t.Fatalf("%+v: pull %d is not taken and gives %+v: %+v", g, n-1, told, pulls)
			}
			continue
		}
		ups := 0
		for _, p := range told {
			if slices.Equal(p.Labels, withModel(g.Labels, "_name", "up")) && p.Time == pulls[n-1].Time {
				ups++
			}
		}
		if ups != 1 {
			t.Fatalf("%+v: pull %d gives up %d times: %+v", g, n-1, ups, pulls)
		}
		last = len(part)
	}
	ended := map[string]int{}
	ends := 0
	for _, p := range all {
		name := labelsTextModel(p.Labels)
		if p.Value != impl.StaleMark {
			ended[name] = 0
			continue
		}
		ends++
		if ended[name]++; ended[name] > 1 {
			t.Fatalf("%+v: %s ends twice: %+v", g, name, pulls)
		}
	}
	return ends
}

// Promise 5: what a target told stays when more pulls come; a series ends once.
func TestRandomRuns(t *testing.T) {
	r := rand.New(rand.NewSource(53))
	ends, puts := 0, 0
	for range 1000 {
		g, pulls := randomTarget(r), randomPulls(r)
		puts += len(checkRun(t, g, pulls))
		ends += checkTold(t, g, pulls)
	}
	if ends < 1000 || puts < 10000 {
		t.Errorf("only %d puts, %d of them ends", puts, ends)
	}
}

func TestManyPulls(t *testing.T) {
	texts := []string{gaugeText(` 1`, `{k="1"} 2`), gaugeText(`{k="1"} 3`), "# end\n"}
	for _, n := range []int{0, 1, 59, 60, 61, 62, 1000} {
		var pulls []impl.Pull
		for i := range n {
			pulls = append(pulls, impl.Pull{Time: 3 * i, Text: texts[i%3]})
		}
		got := checkRun(t, oneTarget(), pulls)
		want := n
		if n > 60 {
			want = 0
		}
		if len(upLines(got)) != want {
			t.Errorf("%d pulls: %d ups", n, len(upLines(got)))
		}
		if n <= 60 {
			checkTold(t, oneTarget(), pulls)
		}
	}
}

// Promise 27: pulls whose times do not rise, or are none, give nothing at all.
func TestPullsThatAreNotGood(t *testing.T) {
	for _, times := range [][]int{
		{-1}, {math.MinInt}, {maxTime + 1}, {math.MaxInt}, {-1, 5}, {5, -1}, {5, 5}, {5, 4}, {0, 0}, {1, 2, 2}, {1, 3, 2}, {1, 2, maxTime + 1}, {maxTime, maxTime}, {maxTime, maxTime + 1}, {1, math.MinInt, 2}, {1, math.MaxInt, 2}, {3, 2, 1}, {1, 2, 3, 4, 4},
		{0}, {maxTime}, {0, maxTime}, {0, 1, 2}, {maxTime - 1, maxTime}, {},
	} {
		for _, text := range []string{gaugeText(` 1`), "no form", ""} {
			var pulls []impl.Pull
			for _, time := range times {
				pulls = append(pulls, impl.Pull{Time: time, Text: text})
			}
			// Also where such a pull would not be taken.
			for _, down := range []bool{false, true} {
				if len(pulls) > 0 {
					pulls[0].Down = down
				}
				if got := checkRun(t, oneTarget(), pulls); (len(got) > 0) != (len(pulls) > 0 && goodPullsModel(pulls)) {
					t.Errorf("%d: %+v", times, got)
				}
			}
		}
	}
}

// Promise 27: texts of all sorts are answered.
func TestPullsOfAnyText(t *testing.T) {
	r := rand.New(rand.NewSource(54))
	base := gaugeText(` 1`, `{k="1"} 2 @7`)
	texts := nearTexts(base, "\n\x00\xff{ #\"")
	for range 300 {
		texts = append(texts, randomOf(r, "# kindxgauge\n{}=\"1@ \x00\xff", 60))
	}
	for _, text := range texts {
		checkRun(t, oneTarget(), []impl.Pull{{Time: 1, Text: base}, {Time: 2, Text: text}, {Time: 12, Text: base}})
	}
	for _, text := range []string{strings.Repeat("x", 1<<20), strings.Repeat("\n", 1<<20), strings.Repeat("# end\n", 1<<18), "# kind x gauge\n" + strings.Repeat("x 1\n", 1<<18), strings.Repeat("\xff", 1<<20)} {
		got := upLines(impl.RunTarget(oneTarget(), []impl.Pull{{Time: 1, Text: base}, {Time: 2, Text: text}, {Time: 12, Text: base}}))
		if !slices.Equal(got, []string{"1 @1", "0 @2", "1 @12"}) {
			t.Errorf("%.20q: %q", text, got)
		}
	}
}

// Promise 27: what is very long is answered too.
func TestVeryLongPulls(t *testing.T) {
	long := strings.Repeat("a", 1<<20)
	for _, g := range []impl.Target{
		{Labels: manyLabels(1 << 12), Every: 10}, {Labels: labelsOf(long, "1"), Every: 10}, {Labels: labelsOf("a", long), Every: 10}, {Every: 10, Rules: slices.Repeat([]impl.Relabel{{Action: 1}}, 1<<16)}, {Every: 10, Rules: []impl.Relabel{{Action: 1, Pattern: long}}},
	} {
		joined, ok := impl.JoinLabels(g, nil)
		if impl.GoodTarget(g) || impl.OffsetOf(g) != 0 || len(impl.PullTimes(g, 0, 100)) > 0 || ok || len(joined) > 0 || len(impl.RunTarget(g, []impl.Pull{{Time: 1}})) > 0 {
			t.Errorf("a target that is very long is taken: %.200s", fmt.Sprintf("%+v", g))
		}
	}
	for _, l := range [][]impl.Label{manyLabels(1 << 12), labelsOf(long, "1"), labelsOf("a", long)} {
		if joined, ok := impl.JoinLabels(oneTarget(), l); ok || len(joined) > 0 {
			t.Errorf("labels that are very long are joined: %d", len(joined))
		}
	}
	if got := impl.RunTarget(oneTarget(), make([]impl.Pull, 1<<18)); len(got) > 0 {
		t.Errorf("very many pulls: %d puts", len(got))
	}
}

// What a target with all the labels that it may have tells of itself has one more.
func TestTargetWithAllItsLabels(t *testing.T) {
	g := impl.Target{Labels: manyLabels(19), Every: 10}
	got := checkRun(t, g, []impl.Pull{{Time: 1, Text: gaugeText(` 1`, `{k="1"} 2`)}, {Time: 2, Down: true}})
	want := []string{"x", "pull_kept", "pull_points", "up", "x", "pull_kept", "pull_points", "up"}
	var names []string
	for _, p := range got {
		names = append(names, impl.ValueOf(p.Labels, "_name"))
		if len(p.Labels) != 20 {
			t.Errorf("%d labels", len(p.Labels))
		}
	}
	if !slices.Equal(names, want) || got[1].Value != 1 || got[2].Value != 2 || got[3].Value != 1 {
		t.Errorf("%q", putLines(got))
	}
}
