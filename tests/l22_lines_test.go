package tests

import (
	"cmp"
	"fmt"
	"maps"
	"math"
	"regexp"
	"slices"
	"strconv"
	"strings"
	"testing"
	"time"

	"loop.example/g00039/impl"
)

const (
	quotedForm  = `"(?:[^"\\]|\\["\\])*"`
	matcherForm = `[A-Za-z0-9_]+(?:=~|!~|!=|=)` + quotedForm
)

var (
	stageSigns = []string{"none", "|=", "!=", "|~", "!~", "| pairs", "| parts", "| where", "| num", "| show", "| keep", "| drop"}
	numSigns   = map[int]string{6: "==", 7: "!=", 8: ">", 9: "<", 10: ">=", 11: "<="}
	numIsSo    = map[int]string{6: "=", 7: "<>", 8: ">", 9: "<", 10: ">=", 11: "<="}
	holeForm   = regexp.MustCompile(`<([A-Za-z_][A-Za-z0-9_]{0,39})>`)
	pieceForm  = regexp.MustCompile(`(?:"(?:[^"\\]|\\.)*(?:"|\\?$)|[^ "])+`)
	pairForm   = regexp.MustCompile(`^([A-Za-z_][A-Za-z0-9_]{0,39})=(?:"((?:[^"\\]|\\["\\])+)"|([^"].*))$`)
	unescapes  = strings.NewReplacer(`\"`, `"`, `\\`, `\`)
	pipeHead   = regexp.MustCompile(`^\{(?:` + matcherForm + `(?:,` + matcherForm + `)*)?\}`)
	stageForm  = regexp.MustCompile(`^ (?:(\|=|!=|\|~|!~|\| parts|\| show) (` + quotedForm + `)|(\| pairs)|(\| where) (` + matcherForm + `)|(\| num) ([A-Za-z0-9_]+) (==|!=|>=|<=|>|<) (-?[0-9]+)|(\| keep|\| drop) ([A-Za-z0-9_,]+))`)
)

func goodStreamsModel(l []impl.Stream) bool {
	for i, s := range l {
		if !goodLabelsModel(s.Labels) || !isWithin(len(s.Lines), 1, 400) || i > 0 && compareModel(l[i-1].Labels, s.Labels) != -1 {
			return false
		}
		for j, x := range s.Lines {
			if !isWithin(x.Time, 0, maxTime) || j > 0 && s.Lines[j-1].Time > x.Time || len(x.Text) > 500 || !isPrintedModel(x.Text) {
				return false
			}
		}
	}
	return len(l) <= 50
}

// formModel tells the names of the holes of a form, and the texts around them.
func formModel(form string) ([]string, []string, bool) {
	var names []string
	seen := map[string]bool{}
	for _, hole := range holeForm.FindAllStringSubmatch(form, -1) {
		names = append(names, hole[1])
		seen[hole[1]] = true
	}
	around := holeForm.Split(form, -1)
	good := isValueModel(form) && len(names) > 0 && len(seen) == len(names)
	for i := 1; i < len(names); i++ {
		good = good && around[i] != ""
	}
	return names, around, good
}

// untold is a stage without what its kind tells.
func untold(s impl.Stage) impl.Stage {
	switch s.Kind {
	case 1, 2, 3, 4, 6, 9:
		s.Text = ""
	case 7:
		s.Match = impl.Matcher{}
	case 8:
		s.Match.Name, s.Op, s.Num = "", 0, 0
	case 10, 11:
		s.Names = nil
	}
	return s
}

func goodStageModel(s impl.Stage) bool {
	if !isWithin(s.Kind, 1, 11) || !same(untold(s), impl.Stage{Kind: s.Kind}) {
		return false
	}
	_, goodPattern := patternModel(s.Text)
	_, _, goodForm := formModel(s.Text)
	return []bool{
		1: isValueModel(s.Text), 2: isValueModel(s.Text), 3: s.Text != "" && goodPattern, 4: s.Text != "" && goodPattern, 5: true, 6: goodForm,
		7: goodMatchersModel([]impl.Matcher{s.Match}), 8: isNameModel(s.Match.Name) && isWithin(s.Op, 6, 11), 9: goodTemplateModel(s.Text),
		10: len(s.Names) > 0 && choiceModel(1, s.Names), 11: len(s.Names) > 0 && choiceModel(1, s.Names),
	}[s.Kind]
}

func goodPipeModel(p impl.Pipe) bool {
	return len(p.Stages) <= 20 && goodMatchersModel(p.Match) && !slices.ContainsFunc(p.Stages, func(s impl.Stage) bool { return !goodStageModel(s) })
}

// pipeTextWhole is the text of a good pipe, however long it is.
func pipeTextWhole(p impl.Pipe) string {
	out := matchersTextModel(p.Match)
	for _, s := range p.Stages {
		out += " " + stageSigns[s.Kind]
		switch s.Kind {
		case 5:
		case 7:
			out += " " + strings.Trim(matchersTextModel([]impl.Matcher{{Name: s.Match.Name, Op: s.Match.Op}}), `{}"`) + quotedModel(s.Match.Value)
		case 8:
			out += fmt.Sprintf(" %s %s %d", s.Match.Name, numSigns[s.Op], s.Num)
		case 10, 11:
			out += " " + strings.Join(s.Names, ",")
		default:
			out += " " + quotedModel(s.Text)
		}
	}
	return out
}

func pipeTextModel(p impl.Pipe) string {
	if !goodPipeModel(p) || len(pipeTextWhole(p)) > 3000 {
		return ""
	}
	return pipeTextWhole(p)
}

func readStageModel(p []string) (impl.Stage, bool) {
	told := strings.Join([]string{p[1], p[3], p[4], p[6], p[10]}, "")
	s, ok := impl.Stage{Kind: slices.Index(stageSigns, told)}, true
	switch {
	case p[2] != "":
		s.Text = unquotedModel(p[2])
	case p[5] != "":
		var m []impl.Matcher
		m, ok = impl.ReadMatchers("{" + p[5] + "}")
		if ok {
			s.Match = m[0]
		}
	case p[7] != "":
		s.Match.Name = p[7]
		for op, sign := range numSigns {
			if sign == p[8] {
				s.Op = op
			}
		}
		s.Num, ok = inDigitsModel(p[9])
	case p[11] != "":
		s.Names = strings.Split(p[11], ",")
	}
	return s, ok
}

func readPipeModel(text string) (impl.Pipe, bool) {
	head := pipeHead.FindString(text)
	match, ok := impl.ReadMatchers(head)
	if !ok || len(text) > 3000 {
		return impl.Pipe{}, false
	}
	p := impl.Pipe{Match: match}
	for rest := text[len(head):]; rest != ""; {
		parts := stageForm.FindStringSubmatch(rest)
		if parts == nil {
			return impl.Pipe{}, false
		}
		s, ok := readStageModel(parts)
		if !ok {
			return impl.Pipe{}, false
		}
		p.Stages = append(p.Stages, s)
		rest = rest[len(parts[0]):]
	}
	if !goodPipeModel(p) {
		return impl.Pipe{}, false
	}
	return p, true
}

func isLineModel(text string) bool {
	return len(text) <= 500 && isPrintedModel(text)
}

func pairsOfModel(text string) []impl.Label {
	if !isLineModel(text) {
		return nil
	}
	l := modelLabels{}
	for _, piece := range pieceForm.FindAllString(text, -1) {
		p := pairForm.FindStringSubmatch(piece)
		if p == nil || l[p[1]] != "" || len(l) == 20 {
			continue
		}
		if value := unescapes.Replace(p[2]) + p[3]; len(value) <= 100 {
			l[p[1]] = value
		}
	}
	return l.list()
}

// partsOfModel looks at each place behind which a hole may end.
func partsOfModel(form string, text string) ([]impl.Label, bool) {
	names, around, good := formModel(form)
	if !good || !isLineModel(text) || !strings.HasPrefix(text, around[0]) || len(names) > 20 {
		return nil, false
	}
	l := modelLabels{}
	left := text[len(around[0]):]
	for i, name := range names {
		behind, end := around[i+1], 0
		for ends := func() bool {
			return behind == "" && end == len(left) || behind != "" && strings.HasPrefix(left[end:], behind)
		}; !ends(); end++ {
			if end == len(left) {
				return nil, false
			}
		}
		if !isValueModel(left[:end]) {
			return nil, false
		}
		l[name] = left[:end]
		left = left[end+len(behind):]
	}
	return l.list(), left == ""
}

// likes has what patterns are as expressions.
var likes = map[string]*regexp.Regexp{}

// likeModel says whether a good pattern stands for all of a text, however long that is.
func likeModel(pattern string, text string) bool {
	if likes[pattern] == nil {
		var all []string
		alternatives, _ := patternModel(pattern)
		for _, signs := range alternatives {
			told := ""
			for _, n := range signs {
				switch n {
				case -1:
					told += ".*"
				case -2:
					told += "."
				default:
					told += regexp.QuoteMeta(string(rune(n)))
				}
			}
			all = append(all, told)
		}
		likes[pattern] = regexp.MustCompile("^(?:" + strings.Join(all, "|") + ")$")
	}
	return likes[pattern].MatchString(text)
}

// addedModel puts labels among others, behind `_line` where they are there.
func addedModel(l modelLabels, told []impl.Label) (modelLabels, bool) {
	out := maps.Clone(l)
	for _, x := range told {
		name := x.Name
		if out[name] != "" {
			name += "_line"
		}
		if len(name) <= 40 && out[name] == "" {
			out[name] = x.Value
		}
	}
	return out, len(out) <= 20
}

// stageModel does what a good stage does.
func stageModel(s impl.Stage, l modelLabels, text string) (modelLabels, string, bool) {
	goesOn := true
	switch s.Kind {
	case 1, 2:
		goesOn = strings.Contains(text, s.Text) == (s.Kind == 1)
	case 3, 4:
		goesOn = likeModel(s.Text, text) == (s.Kind == 3)
	case 5:
		l, goesOn = addedModel(l, pairsOfModel(text))
	case 6:
		told, fits := partsOfModel(s.Text, text)
		l, goesOn = addedModel(l, told)
		goesOn = fits && goesOn
	case 7:
		goesOn = fitsModel(s.Match, l.list())
	case 8:
		n, isNumber := inDigitsModel(l[s.Match.Name])
		how := map[int]string{-1: "< <= <>", 0: "= <= >=", 1: "> >= <>"}[cmp.Compare(n, s.Num)]
		goesOn = isNumber && slices.Contains(strings.Fields(how), numIsSo[s.Op])
	case 9:
		text = fmt.Sprintf("%.500s", fillTemplateModel(s.Text, l.list(), 0))
	case 10:
		l = l.only(s.Names...)
	case 11:
		l = l.without(s.Names...)
	}
	return l, text, goesOn
}

func runPipeModel(l []impl.Stream, p impl.Pipe, from int, to int) []impl.Stream {
	if !goodStreamsModel(l) || !goodPipeModel(p) {
		return nil
	}
	out := map[string]*impl.Stream{}
	for _, s := range l {
		for _, x := range s.Lines {
			labels, text, goesOn := toModel(s.Labels), x.Text, isWithin(x.Time, from, to) && allFitModel(p.Match, s.Labels)
			for i := 0; i < len(p.Stages) && goesOn; i++ {
				labels, text, goesOn = stageModel(p.Stages[i], labels, text)
			}
			if !goesOn {
				continue
			}
			key := labels.text()
			if out[key] == nil {
				out[key] = &impl.Stream{Labels: labels.list()}
			}
			// A line goes behind all that are not later.
			lines := out[key].Lines
			at := len(lines)
			for at > 0 && lines[at-1].Time > x.Time {
				at--
			}
			out[key].Lines = slices.Insert(lines, at, impl.Line{Time: x.Time, Text: text})
		}
	}
	var streams []impl.Stream
	for _, s := range out {
		streams = append(streams, *s)
	}
	slices.SortFunc(streams, func(a, b impl.Stream) int { return compareModel(a.Labels, b.Labels) })
	if !goodStreamsModel(streams) {
		return nil
	}
	return streams
}

// pushModel lets each filter change places with the one ahead of it, as long as it may.
func pushModel(p impl.Pipe) impl.Pipe {
	if !goodPipeModel(p) {
		return impl.Pipe{}
	}
	p = laid(p, 0)
	for swapped := true; swapped; {
		swapped = false
		for i := 1; i < len(p.Stages); i++ {
			if ahead := p.Stages[i-1].Kind; p.Stages[i].Kind <= 4 && ahead > 4 && ahead != 9 {
				p.Stages[i-1], p.Stages[i] = p.Stages[i], p.Stages[i-1]
				swapped = true
			}
		}
	}
	return p
}

func lineSeriesModel(l []impl.Stream, p impl.Pipe, name string, from int, to int, step int) []impl.Series {
	steps, ok := stepsModel(from, to, step)
	if !ok || !goodStreamsModel(l) || !goodPipeModel(p) || !isNameModel(name) {
		return nil
	}
	labels, counts := map[string][]impl.Label{}, map[string]map[int]int{}
	for _, at := range steps {
		for _, s := range runPipeModel(l, p, at-step+1, at) {
			named := toModel(s.Labels)
			named["_name"] = name
			key := named.text()
			if counts[key] == nil {
				labels[key], counts[key] = named.list(), map[int]int{}
			}
			counts[key][at] += len(s.Lines)
		}
	}
	if rows := seriesOf(labels, counts); goodSeriesModel(rows) {
		return rows
	}
	return nil
}

func checkStreams(t *testing.T, l []impl.Stream) bool {
	t.Helper()
	arg, kept := guarded(l)
	got := impl.GoodStreams(arg)
	if got != goodStreamsModel(l) || !kept() {
		t.Fatalf("GoodStreams of %s: %v", shortly(l), got)
	}
	return got
}

// checkPipe holds what is asked of a pipe alone against the model, and what promise 22 says of its text and of pushed filters.
func checkPipe(t *testing.T, p impl.Pipe) bool {
	t.Helper()
	arg, kept := guarded(p)
	good := impl.GoodPipe(arg)
	if good != goodPipeModel(p) || !kept() {
		t.Fatalf("GoodPipe of %s: %v", shortly(p), good)
	}
	text := impl.PipeText(arg)
	if text != pipeTextModel(p) || !kept() {
		t.Fatalf("PipeText of %s: %q, not %q", shortly(p), text, pipeTextModel(p))
	}
	if text != "" {
		if got, ok := checkReadPipe(t, text); !ok || !same(got, p) {
			t.Fatalf("ReadPipe of %q: %v", text, got)
		}
	}
	pushed := impl.PushFilters(arg)
	if !same(pushed, pushModel(p)) || !kept() {
		t.Fatalf("PushFilters of %s: %s, not %s", shortly(p), shortly(pushed), shortly(pushModel(p)))
	}
	checkOwn(t, pushed, arg)
	if impl.GoodPipe(pushed) != true || good && !same(impl.PushFilters(pushed), pushed) {
		t.Fatalf("PushFilters of %s, which was pushed: %s", shortly(pushed), shortly(impl.PushFilters(pushed)))
	}
	return good
}

func checkReadPipe(t *testing.T, text string) (impl.Pipe, bool) {
	t.Helper()
	got, ok := impl.ReadPipe(text)
	want, wantOk := readPipeModel(text)
	if ok != wantOk || !same(got, want) {
		t.Fatalf("ReadPipe of %.400q: %v %v, not %v %v", text, got, ok, want, wantOk)
	}
	if ok && impl.PipeText(got) != text {
		t.Fatalf("ReadPipe of %q: %v, whose text is %q", text, got, impl.PipeText(got))
	}
	checkOwn(t, got)
	return got, ok
}

func checkPairs(t *testing.T, text string) []impl.Label {
	t.Helper()
	got := impl.PairsOf(text)
	if want := pairsOfModel(text); !slices.Equal(got, want) || !goodLabelsModel(got) {
		t.Fatalf("PairsOf %q: %q, not %q", text, got, want)
	}
	return got
}

func checkParts(t *testing.T, form string, text string) ([]impl.Label, bool) {
	t.Helper()
	got, ok := impl.PartsOf(form, text)
	if want, wantOk := partsOfModel(form, text); ok != wantOk || wantOk && !slices.Equal(got, want) || !ok && len(got) > 0 {
		t.Fatalf("PartsOf %q, %q: %q %v, not %q %v", form, text, got, ok, want, wantOk)
	}
	return got, ok
}

// checkRunPipe holds RunPipe against the model, and what it says by pushed filters.
func checkRunPipe(t *testing.T, l []impl.Stream, p impl.Pipe, from int, to int) []impl.Stream {
	t.Helper()
	arg, kept := guarded(l)
	pipe, pipeKept := guarded(p)
	got := impl.RunPipe(arg, pipe, from, to)
	if want := runPipeModel(l, p, from, to); !same(got, want) || !kept() || !pipeKept() {
		t.Fatalf("RunPipe of %s, %s, from %d to %d:\n%s, not\n%s", shortly(l), shortly(pipeTextWhole(p)), from, to, shortly(got), shortly(want))
	}
	checkOwn(t, got, arg, pipe)
	if impl.GoodPipe(p) && !same(impl.RunPipe(l, impl.PushFilters(p), from, to), got) {
		t.Fatalf("RunPipe of %s, %s, from %d to %d, with its filters pushed", shortly(l), shortly(pipeTextWhole(p)), from, to)
	}
	if !goodStreamsModel(got) {
		t.Fatalf("RunPipe says streams that are not good: %s", shortly(got))
	}
	return got
}

func checkLineSeries(t *testing.T, l []impl.Stream, p impl.Pipe, name string, from int, to int, step int) []impl.Series {
	t.Helper()
	arg, kept := guarded(l)
	pipe, pipeKept := guarded(p)
	got := impl.LineSeries(arg, pipe, name, from, to, step)
	if want := lineSeriesModel(l, p, name, from, to, step); !same(got, want) || !kept() || !pipeKept() {
		t.Fatalf("LineSeries of %s, %s, %s, from %d to %d by %d:\n%s, not\n%s", shortly(l), shortly(p), name, from, to, step, shortly(rowsText(got)), shortly(rowsText(want)))
	}
	checkOwn(t, got, arg, pipe)
	return got
}

func linesIn(l []impl.Stream) int {
	n := 0
	for _, s := range l {
		n += len(s.Lines)
	}
	return n
}

func countedIn(rows []impl.Series) int {
	n := 0
	for _, row := range rows {
		for _, s := range row.Samples {
			n += s.Value
		}
	}
	return n
}

// stream is one with lines that are told shortly, each a time, a blank and the text.
func stream(labels string, lines ...string) impl.Stream {
	l, ok := impl.ReadLabels(labels)
	if !ok {
		panic(labels)
	}
	s := impl.Stream{Labels: l}
	for _, line := range lines {
		at, text, _ := strings.Cut(line, " ")
		n, err := strconv.Atoi(at)
		if err != nil {
			panic(line)
		}
		s.Lines = append(s.Lines, impl.Line{Time: n, Text: text})
	}
	return s
}

// ticks are n lines from a time on, one a time.
func ticks(n int, from int) []impl.Line {
	var lines []impl.Line
	for i := range n {
		lines = append(lines, impl.Line{Time: from + i, Text: "n=" + strconv.Itoa(i)})
	}
	return lines
}

// manyStreams are n streams of so many lines.
func manyStreams(n int, lines int) []impl.Stream {
	var l []impl.Stream
	for i := range n {
		l = append(l, impl.Stream{Labels: labelsOf("s", strconv.Itoa(100+i)), Lines: ticks(lines, 0)})
	}
	return l
}

// streamsText tells streams shortly: {a="1"} 1:text 2:text; ...
func streamsText(l []impl.Stream) string {
	var out []string
	for _, s := range l {
		text := impl.LabelsText(s.Labels)
		for _, x := range s.Lines {
			text += fmt.Sprintf(" %d:%s", x.Time, x.Text)
		}
		out = append(out, text)
	}
	return strings.Join(out, "; ")
}

func pipeOf(text string) impl.Pipe {
	p, ok := readPipeModel(text)
	if !ok {
		panic(text)
	}
	return p
}

// staged is a pipe of these stages that takes all streams.
func staged(stages ...impl.Stage) impl.Pipe {
	return impl.Pipe{Stages: stages}
}

// eachStage is a good stage of each kind, at its number.
func eachStage() []impl.Stage {
	return []impl.Stage{
		{},
		{Kind: impl.StageHas, Text: "x"},
		{Kind: impl.StageHasNot, Text: "x"},
		{Kind: impl.StageLike, Text: "x"},
		{Kind: impl.StageUnlike, Text: "x"},
		{Kind: impl.StagePairs},
		{Kind: impl.StageParts, Text: "<x>"},
		{Kind: impl.StageWhere, Match: impl.Matcher{Name: "x", Op: impl.MatchNot, Value: "y"}},
		{Kind: impl.StageNum, Match: impl.Matcher{Name: "x"}, Op: impl.OpMore, Num: 5},
		{Kind: impl.StageShow, Text: "{x}"},
		{Kind: impl.StageKeep, Names: []string{"x"}},
		{Kind: impl.StageDrop, Names: []string{"x", "y"}},
	}
}

func TestLimitsOfLines(t *testing.T) {
	if impl.MaxStreams != 50 || impl.MaxLines != 400 || impl.MaxLine != 500 || impl.MaxStages != 20 || impl.MaxPipe != 3000 {
		t.Error("the limits")
	}
	for i, kind := range []int{impl.StageHas, impl.StageHasNot, impl.StageLike, impl.StageUnlike, impl.StagePairs, impl.StageParts, impl.StageWhere, impl.StageNum, impl.StageShow, impl.StageKeep, impl.StageDrop} {
		if kind != i+1 {
			t.Errorf("the kind %d", kind)
		}
	}
}

func tryStreams(t *testing.T, want bool, l ...impl.Stream) {
	t.Helper()
	if checkStreams(t, l) != want {
		t.Errorf("%s is not %v", shortly(l), want)
	}
	all := math.MaxInt
	if got := checkRunPipe(t, l, impl.Pipe{}, math.MinInt, all); want != same(got, l) || !want && len(got) > 0 {
		t.Errorf("all lines of %s: %s", shortly(l), shortly(got))
	}
	checkLineSeries(t, l, impl.Pipe{}, "lines", 0, maxTime, maxTime)
}

func TestStreamsThatAreGood(t *testing.T) {
	tryStreams(t, true)
	a, b, none := stream(`{a="1"}`, "5 x"), stream(`{a="2"}`, "3 y"), stream(`{}`, "1 z")
	tryStreams(t, true, a)
	tryStreams(t, true, none)
	tryStreams(t, true, none, a, b)
	tryStreams(t, false, a, a)
	tryStreams(t, false, none, none)
	tryStreams(t, false, b, a)
	tryStreams(t, false, a, none)
	tryStreams(t, false, a, b, a)
	tryStreams(t, false, a, stream(`{a="1"}`, "9 other"))
	for n, want := range map[int]bool{1: true, 2: true, 49: true, 50: true, 51: false, 80: false} {
		tryStreams(t, want, manyStreams(n, 1)...)
	}
	for n, want := range map[int]bool{0: false, 1: true, 2: true, 399: true, 400: true, 401: false, 1000: false} {
		tryStreams(t, want, impl.Stream{Labels: a.Labels, Lines: ticks(n, 0)})
		tryStreams(t, want, none, impl.Stream{Labels: a.Labels, Lines: ticks(n, 7)}, b)
	}
	tryStreams(t, true, manyStreams(50, 400)...)
	tryStreams(t, false, impl.Stream{})
	tryStreams(t, false, impl.Stream{Labels: a.Labels, Lines: []impl.Line{}})
	tryStreams(t, true, impl.Stream{Labels: manyLabels(20), Lines: ticks(1, 0)})
	tryStreams(t, true, impl.Stream{Labels: labelsOf("_name", "up"), Lines: ticks(1, 0)})
	for _, bad := range badLabels() {
		tryStreams(t, false, impl.Stream{Labels: bad, Lines: ticks(1, 0)})
		tryStreams(t, false, none, impl.Stream{Labels: bad, Lines: ticks(1, 0)})
	}
}

func TestLinesThatAreGood(t *testing.T) {
	with := func(times ...int) impl.Stream {
		s := impl.Stream{Labels: labelsOf("a", "1")}
		for _, at := range times {
			s.Lines = append(s.Lines, impl.Line{Time: at, Text: "x"})
		}
		return s
	}
	for n, want := range map[int]bool{math.MinInt: false, -maxTime: false, -1: false, 0: true, 1: true, maxTime: true, maxTime + 1: false, math.MaxInt: false} {
		tryStreams(t, want, with(n))
		tryStreams(t, want, with(n, n))
		tryStreams(t, want && n >= 5, with(5, n))
		tryStreams(t, want && n <= 5, with(n, 5))
		tryStreams(t, want && n >= 5, with(0, 5, n))
	}
	tryStreams(t, true, with(1, 1, 1))
	tryStreams(t, true, with(0, 1, 1, 2, maxTime, maxTime))
	tryStreams(t, false, with(2, 1))
	tryStreams(t, false, with(1, 3, 2))
	tryStreams(t, false, with(1, 3, 2, 3))
	tryStreams(t, false, with(1, 1, 0))
	tryStreams(t, false, with(math.MaxInt, math.MinInt))
	line := func(text string) impl.Stream {
		return impl.Stream{Labels: labelsOf("a", "1"), Lines: []impl.Line{{Time: 1, Text: "x"}, {Time: 1, Text: text}}}
	}
	for n, want := range map[int]bool{0: true, 1: true, 100: true, 101: true, 499: true, 500: true, 501: false, 5000: false} {
		tryStreams(t, want, line(strings.Repeat("~", n)))
	}
	for c := range 256 {
		s := string([]byte{byte(c)})
		for _, text := range []string{s, "a" + s, s + "a", strings.Repeat("x", 499) + s} {
			tryStreams(t, c >= 32 && c <= 126, line(text))
		}
	}
	tryStreams(t, false, line("é"))
	tryStreams(t, false, line("世界"))
}

// tryStage asks whether a stage makes a pipe that is good, alone, behind and ahead of others.
func tryStage(t *testing.T, want bool, s impl.Stage) {
	t.Helper()
	l := []impl.Stream{stream(`{a="1"}`, "1 x=y", "2 x", "3 y=x n=7")}
	for _, p := range []impl.Pipe{staged(s), staged(eachStage()[5], s), staged(s, eachStage()[1]), {Match: matchersOf(`a="1"`), Stages: []impl.Stage{s}}} {
		if checkPipe(t, p) != want {
			t.Errorf("%+v is not %v", s, want)
		}
		checkRunPipe(t, l, p, 0, 9)
		checkLineSeries(t, l, p, "lines", 0, 4, 2)
	}
}

func TestStagesThatAreGood(t *testing.T) {
	each := eachStage()
	for kind := 1; kind <= 11; kind++ {
		tryStage(t, true, each[kind])
		// Each field that the kind does not tell, with something in it.
		for change := range 8 {
			s := laid(each[kind], 0)
			switch change {
			case 0:
				s.Text += "<x>"
			case 1:
				s.Match.Name = "x"
			case 2:
				s.Match.Op = impl.MatchSame
			case 3:
				s.Match.Value = "y"
			case 4:
				s.Op = impl.OpSame
			case 5:
				s.Num++
			case 6:
				s.Names = append(s.Names, "z")
			default:
				s.Names = append(s.Names, "")
			}
			tryStage(t, goodStageModel(s), s)
		}
		wrong := 0
		for _, s := range []impl.Stage{{Kind: kind, Text: "<x>"}, {Kind: kind, Match: each[7].Match}, {Kind: kind, Match: each[8].Match, Op: 6}, {Kind: kind, Op: 6}, {Kind: kind, Num: -1}, {Kind: kind, Names: []string{"x"}}, {Kind: kind}} {
			tryStage(t, goodStageModel(s), s)
			if !goodStageModel(s) {
				wrong++
			}
		}
		if wrong < 5 {
			t.Errorf("%d stages of kind %d are not good", wrong, kind)
		}
	}
	for _, kind := range []int{0, -1, 12, 13, math.MinInt, math.MaxInt} {
		tryStage(t, false, impl.Stage{Kind: kind})
		for _, s := range each {
			s.Kind = kind
			tryStage(t, false, s)
		}
	}
	empty := each[5]
	empty.Names = []string{}
	tryStage(t, true, empty)
}

func TestTextsOfStages(t *testing.T) {
	for n, want := range map[int]bool{0: false, 1: true, 2: true, 99: true, 100: true, 101: false, 5000: false} {
		text := strings.Repeat("v", n)
		for kind := 1; kind <= 4; kind++ {
			tryStage(t, want, impl.Stage{Kind: kind, Text: text})
		}
	}
	for c := range 256 {
		s := string([]byte{byte(c)})
		printed := c >= 32 && c <= 126
		for kind := 1; kind <= 4; kind++ {
			for _, text := range []string{s, "a" + s, s + "a"} {
				tryStage(t, printed && (kind < 3 || c != '\\'), impl.Stage{Kind: kind, Text: text})
			}
		}
		tryStage(t, printed, impl.Stage{Kind: 6, Text: "<x>" + s})
		tryStage(t, printed, impl.Stage{Kind: 6, Text: s + "<x>"})
		tryStage(t, printed && c != '{', impl.Stage{Kind: 9, Text: s})
	}
	for text, want := range map[string]bool{`\*`: true, `\?\|\\`: true, "*": true, "|": true, "a||b": true, "?": true, `\`: false, `a\`: false, `\a`: false, `\"`: false, `a|\`: false, `\\\`: false} {
		tryStage(t, want, impl.Stage{Kind: 3, Text: text})
		tryStage(t, want, impl.Stage{Kind: 4, Text: text})
		tryStage(t, true, impl.Stage{Kind: 1, Text: text})
	}
	for text, want := range map[string]bool{"": true, "x": true, "{{": true, "{a}": true, "{": false, "{a": false, "{}": false, "{ a}": false, "{1}": false} {
		tryStage(t, want, impl.Stage{Kind: 9, Text: text})
	}
	for n, want := range map[int]bool{199: true, 200: true, 201: false} {
		tryStage(t, want, impl.Stage{Kind: 9, Text: strings.Repeat("x", n)})
	}
}

func TestFormsThatAreGood(t *testing.T) {
	name := strings.Repeat("n", 40)
	for form, want := range map[string]bool{
		"<a>": true, "x<a>": true, "<a>x": true, " <a> ": true, "<a> <b>": true, "<a><<b>": true, "<a>><b>": true, "<_>": true, "<A9_>": true, "<" + name + ">": true, "<b> <a>": true, "<a><>": true, "<><a>": true, "<<a>": true, "<<<a>>>": true, "<a<b>": true, "<a> <a": true, "<1><a>": true, "<a><1>": true, "<a> <b> <c>": true, "<_name>": true, `"<a>"`: true, "<a >x<a>": true,
		"": false, "x": false, "<": false, ">": false, "<>": false, "<a": false, "a>": false, "<1>": false, "<1a>": false, "<a b>": false, "< a>": false, "<a >": false, "<a-b>": false, "<é>": false, "<" + name + "n>": false,
		"<a><b>": false, "x<a><b>": false, "<a> <b><c>": false, "<a><b> <c>": false, "<a> <a>": false, "<a> <b> <a>": false, "<a><a>": false, "<a>x<a>y<b>": false, "<a>\n": false, "\x7f<a>": false,
	} {
		tryStage(t, want, impl.Stage{Kind: impl.StageParts, Text: form})
		checkParts(t, form, "x y z")
	}
	for n, want := range map[int]bool{99: true, 100: true, 101: false, 500: false} {
		tryStage(t, want, impl.Stage{Kind: impl.StageParts, Text: "<a>" + strings.Repeat("x", n-3)})
		tryStage(t, want, impl.Stage{Kind: impl.StageParts, Text: strings.Repeat("<", n-3) + "<a>"})
	}
}

func TestMatchersOfStages(t *testing.T) {
	for _, m := range slices.Concat(badMatchers(), [][]impl.Matcher{{{}}, {{Op: 1}}, {{Name: "a"}}, {{Name: "a", Value: "v"}}}) {
		for _, x := range m {
			tryStage(t, goodMatchersModel([]impl.Matcher{x}), impl.Stage{Kind: impl.StageWhere, Match: x})
			tryStage(t, false, impl.Stage{Kind: impl.StageNum, Op: 6, Match: impl.Matcher{Name: "a", Op: x.Op, Value: x.Value + "v"}})
		}
		p := staged(eachStage()[1])
		p.Match = m
		if checkPipe(t, p) != goodMatchersModel(m) {
			t.Errorf("%+v", m)
		}
		checkRunPipe(t, []impl.Stream{stream(`{a="1"}`, "1 x")}, p, 0, 9)
	}
	for n := range 12 {
		p := impl.Pipe{Match: manyMatchers(n)}
		if checkPipe(t, p) != (n <= 10) {
			t.Errorf("%d matchers", n)
		}
	}
	for op := 1; op <= 4; op++ {
		for _, value := range []string{"", "v", `"`, "a|b", strings.Repeat("v", 100)} {
			tryStage(t, true, impl.Stage{Kind: impl.StageWhere, Match: impl.Matcher{Name: "a", Op: op, Value: value}})
		}
	}
}

func TestNumbersOfStages(t *testing.T) {
	for op := -1; op <= 16; op++ {
		for _, n := range []int{0, 1, -1, 10, math.MinInt, math.MaxInt} {
			tryStage(t, isWithin(op, impl.OpSame, impl.OpMost), impl.Stage{Kind: impl.StageNum, Match: impl.Matcher{Name: "a"}, Op: op, Num: n})
		}
	}
	for _, op := range []int{math.MinInt, math.MaxInt, impl.OpSame - 1, impl.OpMost + 1} {
		tryStage(t, false, impl.Stage{Kind: impl.StageNum, Match: impl.Matcher{Name: "a"}, Op: op})
	}
	for name, want := range map[string]bool{"_": true, "_name": true, "A9": true, "num": true, strings.Repeat("n", 40): true, "": false, "9": false, "a b": false, "a-": false, "é": false, strings.Repeat("n", 41): false} {
		tryStage(t, want, impl.Stage{Kind: impl.StageNum, Match: impl.Matcher{Name: name}, Op: 6})
		tryStage(t, want, impl.Stage{Kind: impl.StageWhere, Match: impl.Matcher{Name: name, Op: 1}})
		tryStage(t, want, impl.Stage{Kind: impl.StageKeep, Names: []string{name}})
		tryStage(t, want, impl.Stage{Kind: impl.StageDrop, Names: []string{name}})
	}
}

func TestNamesOfStages(t *testing.T) {
	ten := []string{"A", "B", "_", "a", "b", "c", "d", "e", "f", "g"}
	for _, kind := range []int{impl.StageKeep, impl.StageDrop} {
		for n := range 11 {
			tryStage(t, n > 0, impl.Stage{Kind: kind, Names: ten[:n]})
		}
		tryStage(t, false, impl.Stage{Kind: kind, Names: append(slices.Clone(ten), "h")})
		for _, names := range [][]string{{"b", "a"}, {"a", "a"}, {"a", "c", "b"}, {"a", "b", "b"}, {"a", "A"}, {"a", "b", "1"}, {"", "a"}, {"1", "a"}, {"a", ""}, {"a,b"}, {"a", "b-"}} {
			tryStage(t, false, impl.Stage{Kind: kind, Names: names})
		}
	}
}

func TestPipesAtTheirLimits(t *testing.T) {
	l := []impl.Stream{stream(`{a="1"}`, "1 x=1", "2 y=2")}
	for _, s := range eachStage()[1:] {
		for n, want := range map[int]bool{0: true, 1: true, 19: true, 20: true, 21: false, 40: false} {
			p := staged(slices.Repeat([]impl.Stage{s}, n)...)
			if checkPipe(t, p) != want {
				t.Errorf("%d stages", n)
			}
			checkRunPipe(t, l, p, 0, 9)
			checkLineSeries(t, l, p, "lines", 1, 2, 1)
		}
	}
	for size, want := range map[int]int{2999: 2999, 3000: 3000, 3001: 0, 3002: 0, 3500: 0} {
		p := pipeOfSize(size)
		text := pipeTextWhole(p)
		if !checkPipe(t, p) || len(text) != size || len(impl.PipeText(p)) != want {
			t.Errorf("%d bytes: %d", size, len(impl.PipeText(p)))
		}
		if _, ok := checkReadPipe(t, text); ok != (want > 0) {
			t.Errorf("%d bytes are read: %v", size, ok)
		}
		if got := checkRunPipe(t, l, p, 0, 9); len(got) != 1 {
			t.Errorf("a pipe whose text would have %d bytes: %v", size, got)
		}
		checkReadPipe(t, text+" ")
		checkReadPipe(t, text[:size-1])
	}
	for _, long := range []string{strings.Repeat("{", 3001), strings.Repeat(" | pairs", 1000), "{}" + strings.Repeat(" | pairs", 375), "{}" + strings.Repeat(" | pairs", 374), "{}" + strings.Repeat(" | pairs", 21), `{a="` + strings.Repeat(`\\`, 5000), "{} |= \"" + strings.Repeat("x", 100000) + `"`, "{} | keep " + strings.Repeat("a,", 1400) + "b", "{} | num a > " + strings.Repeat("9", 2900), "{} | where " + strings.Repeat("a", 2900) + `="1"`} {
		if _, ok := checkReadPipe(t, long); ok {
			t.Errorf("read: %.60q", long)
		}
	}
}

// pipeOfSize is a good pipe whose text would have that many bytes.
func pipeOfSize(size int) impl.Pipe {
	p := staged(slices.Repeat([]impl.Stage{{Kind: impl.StageHasNot, Text: "z"}}, 20)...)
	left := size - len(pipeTextWhole(p))
	for i := range p.Stages {
		for len(p.Stages[i].Text) < 100 && left > 10 {
			p.Stages[i].Text += `"`
			left -= 2
		}
	}
	p.Match = matchersOf(`a!="` + strings.Repeat("v", left-5) + `"`)
	return p
}

func TestTextOfPipes(t *testing.T) {
	least, most := math.MinInt, math.MaxInt
	for _, c := range []struct {
		pipe impl.Pipe
		want string
	}{
		{impl.Pipe{}, "{}"},
		{impl.Pipe{Match: []impl.Matcher{}, Stages: []impl.Stage{}}, "{}"},
		{impl.Pipe{Match: matchersOf(`b="1",a!="",c=~"x|*",a!~"\"\\\\"`)}, `{b="1",a!="",c=~"x|*",a!~"\"\\\\"}`},
		{staged(impl.Stage{Kind: 1, Text: "x"}), `{} |= "x"`},
		{staged(impl.Stage{Kind: 2, Text: "x"}), `{} != "x"`},
		{staged(impl.Stage{Kind: 3, Text: "x*"}), `{} |~ "x*"`},
		{staged(impl.Stage{Kind: 4, Text: "x*"}), `{} !~ "x*"`},
		{staged(impl.Stage{Kind: 5}), `{} | pairs`},
		{staged(impl.Stage{Kind: 6, Text: "<a> <b>"}), `{} | parts "<a> <b>"`},
		{staged(impl.Stage{Kind: 7, Match: impl.Matcher{Name: "a", Op: 1, Value: "x"}}), `{} | where a="x"`},
		{staged(impl.Stage{Kind: 7, Match: impl.Matcher{Name: "a", Op: 2}}), `{} | where a!=""`},
		{staged(impl.Stage{Kind: 7, Match: impl.Matcher{Name: "a", Op: 3, Value: "x|y"}}), `{} | where a=~"x|y"`},
		{staged(impl.Stage{Kind: 7, Match: impl.Matcher{Name: "a", Op: 4, Value: `"`}}), `{} | where a!~"\""`},
		{staged(impl.Stage{Kind: 8, Match: impl.Matcher{Name: "took"}, Op: 6}), `{} | num took == 0`},
		{staged(impl.Stage{Kind: 8, Match: impl.Matcher{Name: "took"}, Op: 7, Num: 5}), `{} | num took != 5`},
		{staged(impl.Stage{Kind: 8, Match: impl.Matcher{Name: "took"}, Op: 8, Num: -5}), `{} | num took > -5`},
		{staged(impl.Stage{Kind: 8, Match: impl.Matcher{Name: "took"}, Op: 9, Num: least}), `{} | num took < -9223372036854775808`},
		{staged(impl.Stage{Kind: 8, Match: impl.Matcher{Name: "took"}, Op: 10, Num: most}), `{} | num took >= 9223372036854775807`},
		{staged(impl.Stage{Kind: 8, Match: impl.Matcher{Name: "num"}, Op: 11, Num: 10}), `{} | num num <= 10`},
		{staged(impl.Stage{Kind: 9, Text: "{a}: {{"}), `{} | show "{a}: {{"`},
		{staged(impl.Stage{Kind: 9}), `{} | show ""`},
		{staged(impl.Stage{Kind: 10, Names: []string{"a"}}), `{} | keep a`},
		{staged(impl.Stage{Kind: 10, Names: []string{"A", "_", "a", "keep"}}), `{} | keep A,_,a,keep`},
		{staged(impl.Stage{Kind: 11, Names: []string{"a", "b"}}), `{} | drop a,b`},
		{staged(eachStage()[1:]...), `{} |= "x" != "x" |~ "x" !~ "x" | pairs | parts "<x>" | where x!="y" | num x > 5 | show "{x}" | keep x | drop x,y`},
		{staged(impl.Stage{Kind: 1, Text: `"`}, impl.Stage{Kind: 2, Text: `\`}, impl.Stage{Kind: 3, Text: `\\`}, impl.Stage{Kind: 4, Text: " "}), `{} |= "\"" != "\\" |~ "\\\\" !~ " "`},
		{staged(impl.Stage{Kind: 1, Text: `" | pairs`}, impl.Stage{Kind: 9, Text: ` | show "x" |= `}, impl.Stage{Kind: 6, Text: `\"<a>" |`}), `{} |= "\" | pairs" | show " | show \"x\" |= " | parts "\\\"<a>\" |"`},
		{impl.Pipe{Match: matchersOf(`a="} | pairs"`), Stages: []impl.Stage{{Kind: 5}, {Kind: 5}}}, `{a="} | pairs"} | pairs | pairs`},
	} {
		if !checkPipe(t, c.pipe) || impl.PipeText(c.pipe) != c.want {
			t.Errorf("%+v: %q, not %q", c.pipe, impl.PipeText(c.pipe), c.want)
		}
	}
	for _, bad := range []impl.Pipe{staged(impl.Stage{}), staged(impl.Stage{Kind: 12}), staged(impl.Stage{Kind: 1}), {Match: manyMatchers(11)}, {Match: []impl.Matcher{{}}}, staged(slices.Repeat([]impl.Stage{{Kind: 5}}, 21)...)} {
		if checkPipe(t, bad) || impl.PipeText(bad) != "" || !same(impl.PushFilters(bad), impl.Pipe{}) {
			t.Errorf("%+v", bad)
		}
	}
}

func TestPipesAreReadBack(t *testing.T) {
	for _, text := range []string{
		`{}`, `{a="1"}`, `{b="",a!="x",a=~"*",z!~"\\\\"}`, `{} | pairs`, `{a="}"} | pairs |= "took" | num took > 5 | show "{level}!" | keep job,level`,
		`{} | num a == -1`, `{} | num a == 0`, `{} | num a == 9223372036854775807 | num a == -9223372036854775808`, `{} | keep keep | drop drop | where where="where" | num num > 1`, `{} | where a="" | where a=~"" | where a!~"|"`,
		`{} |= " " |= "|" |= "|= \"x\"" |= "\\" |= "\"" != "\"\\\""`, `{} | show "" | show "\"{a}\\\""`, `{} | parts "<a<b> <c>" | parts "<a>"`,
	} {
		if p, ok := checkReadPipe(t, text); !ok || !checkPipe(t, p) {
			t.Errorf("%q: %v", text, p)
		}
	}
	got, ok := checkReadPipe(t, `{a="1",b!~"x"} |= "\"" | num n <= -7 | where c!="\\" | keep d,e | pairs`)
	want := impl.Pipe{
		Match: []impl.Matcher{{Name: "a", Op: impl.MatchSame, Value: "1"}, {Name: "b", Op: impl.MatchUnlike, Value: "x"}},
		Stages: []impl.Stage{
			{Kind: impl.StageHas, Text: `"`}, {Kind: impl.StageNum, Match: impl.Matcher{Name: "n"}, Op: impl.OpMost, Num: -7}, {Kind: impl.StageWhere, Match: impl.Matcher{Name: "c", Op: impl.MatchNot, Value: `\`}},
			{Kind: impl.StageKeep, Names: []string{"d", "e"}}, {Kind: impl.StagePairs},
		},
	}
	if !ok || !same(got, want) {
		t.Errorf("%+v", got)
	}
}

func TestNothingElseIsReadAsAPipe(t *testing.T) {
	for _, text := range []string{
		"", " ", "{", "}", "x", " {}", "{} ", "{}  ", "{}{}", "{}|= \"x\"", "{}  |= \"x\"", "{} |=  \"x\"", "{} |=\"x\"", "{} |= \"x\" ", "{} |= x", "{} |= ", "{} |=", "{} |", "{} =", "{} = \"x\"", "{} |! \"x\"", "{} =~ \"x\"", "{} ~ \"x\"", `{} | = "x"`,
		`{} |= ""`, `{} != ""`, `{} |~ ""`, `{} !~ ""`, `{} |~ "\"`, `{} |~ "\\"`, `{} |~ "\\a"`, `{} |= "x`, `{} |= x"`, `{} |= "x""y"`, `{} |= "x" "y"`, `{} |= "\x"`, `{} |= "x\"`, `{} |= 'x'`, "{} |= \"\n\"", "{} |= \"\xff\"", "{} |= \"é\"",
		"{} | Pairs", "{} |pairs", "{} |  pairs", "{}  | pairs", "{} | pairs ", "{} | pair", "{} | pairss", "{} | pairs x", `{} | pairs "x"`, "{} pairs", "{} | pairs| pairs", "{} | pairs  | pairs", "{} | pairs\t| pairs", "{}\t| pairs", "{} | pairs\n",
		`{} | parts`, `{} | parts `, `{} | parts ""`, `{} | parts "x"`, `{} | parts "<a><b>"`, `{} | parts <a>`, `{} | parts  "<a>"`, `{} | parts "<a>" `, `{} | part "<a>"`,
		`{} | where`, `{} | where `, `{} | where a`, `{} | where a=`, `{} | where a="1`, `{} | where {a="1"}`, `{} | where a = "1"`, `{} | where a="1",b="2"`, `{} | where a=="1"`, `{} | where a>"1"`, `{} | where ="1"`, `{} | where 1="1"`, `{} | where a=~"\\"`, `{} | where  a="1"`, `{} | where a="1" `,
		`{} | num`, `{} | num `, `{} | num a`, `{} | num a >`, `{} | num a > `, `{} | num > 5`, `{} | num a 5`, `{} | num a> 5`, `{} | num a >5`, `{} | num a>5`, `{} | num  a > 5`, `{} | num a  > 5`, `{} | num a >  5`, `{} | num a > 5 `, `{} | num a = 5`, `{} | num a === 5`, `{} | num a => 5`, `{} | num a <> 5`, `{} | num a =~ 5`, `{} | num a + 5`, `{} | num a and 5`, `{} | num a or 5`, `{} | num a unless 5`, `{} | num 1 > 5`, `{} | num a-b > 5`, `{} | num a > b`, `{} | num a > "5"`,
		`{} | num a > -0`, `{} | num a > 01`, `{} | num a > 00`, `{} | num a > +1`, `{} | num a > --1`, `{} | num a > -`, `{} | num a > - 1`, `{} | num a > 1.0`, `{} | num a > 1e3`, `{} | num a > 0x1`, `{} | num a > 1_0`, `{} | num a > -01`, `{} | num a > 9223372036854775808`, `{} | num a > -9223372036854775809`, `{} | num a > 99999999999999999999999`,
		`{} | show`, `{} | show `, `{} | show x`, `{} | show "{"`, `{} | show "{a"`, `{} | show "{}"`, `{} | show "x`, `{} | show  "x"`, `{} | show "x" "y"`,
		`{} | keep`, `{} | keep `, `{} | keep ,`, `{} | keep a,`, `{} | keep ,a`, `{} | keep a,,b`, `{} | keep a, b`, `{} | keep a b`, `{} | keep b,a`, `{} | keep a,a`, `{} | keep a,c,b`, `{} | keep 1`, `{} | keep a-b`, `{} | keep "a"`, `{} | keep a `, `{} | keep  a`, `{} | Keep a`, `{} | keepa`, `{} | keep a,b,c,d,e,f,g,h,i,j,k`,
		`{} | drop`, `{} | drop b,a`, `{} | drop a,a`, `{} | drop a, b`, `{} | none`, `{} | none "x"`, `{} | 5`, `{} | | pairs`, `{} none "x"`, `{a} | pairs`, `{a=} | pairs`, `{a="1" | pairs`, `{a="1",} | pairs`, `{a=~"\\a"} | pairs`, `a="1" | pairs`, `| pairs`, ` | pairs`, `|= "x"`, `{ } | pairs`, `{a="1", b="2"} | pairs`,
		"{}" + strings.Repeat(" | pairs", 21), "{} |= \"" + strings.Repeat("x", 101) + `"`, "{} |= \"" + strings.Repeat(`\\`, 101) + `"`, "{} | keep " + strings.Repeat("n", 41), "{} | num " + strings.Repeat("n", 41) + " > 1", "{} | show \"" + strings.Repeat("x", 201) + `"`, `{` + strings.Repeat(`a="",`, 10) + `a=""}`,
		"{} | keep a,b\x00", "{} | pairs\x00", "\x00", "{}\x00", "{} \xff", "é",
	} {
		if got, ok := checkReadPipe(t, text); ok {
			t.Errorf("read from %q: %v", text, got)
		}
	}
	read := 0
	for _, text := range []string{`{} | pairs`, `{a="1"} |= "x\"" | num a >= -10 | where b!~"\\\\"`, `{} != "x" !~ "a|b" | show "{a}" | keep a,b`, `{a!="",b=~"x"} | parts "<a> <b>x" | drop b |~ "y"`} {
		for _, s := range nearTexts(text, "{}=,\"\\a1 ~!|<>-+x0\n") {
			if _, ok := checkReadPipe(t, s); ok {
				read++
			}
		}
	}
	if read < 150 {
		t.Errorf("%d were read", read)
	}
}

func TestPairsOfTexts(t *testing.T) {
	long := strings.Repeat("v", 100)
	name := strings.Repeat("n", 40)
	for _, c := range []struct{ text, want string }{
		{"", ""}, {" ", ""}, {"   ", ""}, {"x", ""}, {"=", ""}, {"==", ""}, {"a=1", "a=1"}, {" a=1 ", "a=1"}, {"  a=1   b=2  ", "a=1 b=2"}, {"b=2 a=1", "a=1 b=2"}, {"GET a=1 /x", "a=1"},
		{"a =1", ""}, {"a= 1", ""}, {"a = 1", ""}, {"=1", ""}, {"a=", ""}, {"a= b=1", "b=1"}, {"a", ""}, {"a==", "a=="}, {"a==1", "a==1"}, {"a=b=c", "a=b=c"}, {"a=1,b=2", "a=1,b=2"}, {"a=1\\", "a=1\\"}, {"a!=1", ""}, {"a:1", ""}, {"{a=1}", ""},
		{"9=3", ""}, {"9a=3", ""}, {"a-b=3", ""}, {"_=3 _9=4 A=5", "A=5 _=3 _9=4"}, {"a.b=1", ""}, {"_name=up", "_name=up"}, {name + "=1", name + "=1"}, {name + "n=1", ""},
		{"a=" + long, "a=" + long}, {"a=" + long + "v", ""}, {`a="` + long + `"`, "a=" + long}, {`a="` + long + `v"`, ""}, {"a=" + long + "v a=1", "a=1"}, {`a="` + strings.Repeat(`\"`, 100) + `"`, "a=" + strings.Repeat(`"`, 100)}, {`a="` + strings.Repeat(`\\`, 101) + `"`, ""},
		{"a=1 a=2", "a=1"}, {"a=2 b=1 a=1", "a=2 b=1"}, {"a= a=2", "a=2"}, {`a="" a=2`, "a=2"}, {`a="x"y a=2`, "a=2"}, {`a="x" a=2`, "a=x"},
		// Quotes at the beginning, in the middle and at the end of a piece.
		{`"a=1"`, ""}, {`"a=1 b=2"`, ""}, {`"x" a=1`, "a=1"}, {`"x"a=1`, ""}, {`"x a=1" b=2`, "b=2"}, {`"a"=1`, ""}, {`a"b=1`, ""}, {`a"b c=1" d=2`, "d=2"}, {`a"=1`, ""}, {`a"="1`, ""}, {`a=1"`, `a=1"`}, {`a=1" b=2`, `a=1"_b=2`}, {`a=1" b=2" c=3`, `a=1"_b=2" c=3`}, {`a=x"y z"w b=1`, `a=x"y_z"w b=1`}, {`a=1"" b=2`, `a=1"" b=2`}, {`a=x"`, `a=x"`}, {`"" a=1`, "a=1"}, {`""a=1`, ""}, {`"`, ""}, {`" a=1`, ""}, {`a=1 "`, "a=1"}, {`a=1 " b=2`, "a=1"},
		{`a=""`, ""}, {`a="" b=1`, "b=1"}, {`a="x"`, "a=x"}, {`a="x y"`, "a=x_y"}, {`a="x y" b="z w"`, "a=x_y b=z_w"}, {`a="  "`, "a=__"}, {`a=" " b=1`, "a=_ b=1"}, {`a="x"b="y"`, ""}, {`a="x",b="y"`, ""}, {`a="x"b=1 c=2`, "c=2"}, {`a="x""y"`, ""}, {`a="x"y`, ""}, {`a="x"=`, ""}, {`a="x"" "`, ""}, {`a="x" "y"`, "a=x"}, {`a="b=1"`, "a=b=1"}, {`a="b=1 c=2" d=3`, "a=b=1_c=2 d=3"}, {`a="="`, "a=="},
		// A quote that is not ended goes to the end.
		{`a="`, ""}, {`a="x`, ""}, {`a="x y b=1`, ""}, {`a="x y b=1 c="2"`, ""}, {`b=1 a="x y c=2`, "b=1"}, {`a=x" b=1 c=2`, `a=x"_b=1_c=2`}, {`b=1 "a=2 c=3`, "b=1"}, {`a="x" b="y`, "a=x"},
		// What `\` takes with it.
		{`a="x\"y"`, `a=x"y`}, {`a="\""`, `a="`}, {`a="\\"`, `a=\`}, {`a="\\" b=1`, `a=\ b=1`}, {`a="\"" b=1`, `a=" b=1`}, {`a="x\" b=1" c=2`, `a=x"_b=1 c=2`}, {`a="x\\" b=1`, `a=x\ b=1`}, {`a="\\\""`, `a=\"`}, {`a="\\\\"`, `a=\\`}, {`a="\\\\\"" b=1`, `a=\\" b=1`},
		{`a="x\ny"`, ""}, {`a="x\y" b=1`, "b=1"}, {`a="\ " b=1`, "b=1"}, {`a="\a\"" b=1`, "b=1"}, {`a="\`, ""}, {`a="x\`, ""}, {`a="x\"`, ""}, {`a="x\\`, ""}, {`a="x\" b=1`, ""}, {`a="x\\\" b=1`, ""}, {`"\" a=1`, ""}, {`"\" " a=1`, "a=1"}, {`"\x" a=1`, "a=1"}, {`"\\" a=1`, "a=1"}, {`"\\\" a=1`, ""}, {`"\ " a=1`, "a=1"},
		{`\a=1`, ""}, {`a\=1`, ""}, {`a=\`, `a=\`}, {`a=\ b=1`, `a=\ b=1`}, {`a=\\ b=1`, `a=\\ b=1`}, {`a=\" b=1" c=2`, `a=\"_b=1" c=2`}, {`a=\"x`, `a=\"x`}, {`\" a=1" b=2`, "b=2"}, {`\ a=1`, "a=1"}, {`a=x\"y z\" b=1`, `a=x\"y_z\"_b=1`}, {`a=x\"y z\"" b=1`, `a=x\"y_z\"" b=1`},
	} {
		var want []string
		for _, x := range checkPairs(t, c.text) {
			want = append(want, x.Name+"="+strings.ReplaceAll(x.Value, " ", "_"))
		}
		if got := strings.Join(want, " "); got != c.want {
			t.Errorf("%q: %q, not %q", c.text, got, c.want)
		}
	}
	for c := range 256 {
		s := string([]byte{byte(c)})
		for _, text := range []string{"a=" + s, "a=x" + s + "y b=1", `a="x` + s + `y" b=1`, s + "a=1", s + "=1", "a" + s + "=1", `a="\` + s + `" b=1`} {
			if got := checkPairs(t, text); !isPrintedModel(text) && len(got) > 0 {
				t.Errorf("%q: %q", text, got)
			}
		}
	}
	checkPairs(t, "a=1 b=é")
	checkPairs(t, "a=1\tb=2")
}

func TestPairsAtTheirLimits(t *testing.T) {
	for n := range 60 {
		// The names fall, so that the first ones in the text are the last ones that rise.
		text := ""
		for i := range n {
			text += fmt.Sprintf("n%d=%d ", 199-i, i)
		}
		got := checkPairs(t, text)
		if len(got) != min(n, 20) || n > 0 && (got[len(got)-1] != impl.Label{Name: "n199", Value: "0"}) {
			t.Errorf("%d pairs: %q", n, got)
		}
		// Those that are none, and those of a name that is there, leave room for others.
		if got := checkPairs(t, "x x= 1=2 n199=0 n199=1 "+text); len(got) != min(max(n, 1), 20) || got[len(got)-1].Value != "0" {
			t.Errorf("%d pairs and others: %q", n, got)
		}
		if got := checkPairs(t, text+" n199=7 n198=8 a=9"); n > 20 && got[0].Name == "a" {
			t.Errorf("%d pairs and one of a name that is there: %q", n, got)
		}
	}
	for n, want := range map[int]int{499: 1, 500: 1, 501: 0, 5000: 0} {
		text := "a=1" + strings.Repeat(" ", n-3)
		if got := checkPairs(t, text); len(got) != want {
			t.Errorf("%d bytes: %q", n, got)
		}
		if got := checkPairs(t, strings.Repeat(" ", n-3)+"a=1"); len(got) != want {
			t.Errorf("%d bytes: %q", n, got)
		}
	}
	r := newEvalAsker(220)
	found := 0
	for range 60000 {
		text := ""
		for range r.Intn(14) {
			text += oneOf(r.Rand, "a", "b", "=", "=", `"`, `"`, `\`, " ", " ", "a=", `a="`, `b="x" `, "1", "c=2", "_", `\"`)
		}
		found += len(checkPairs(t, text))
	}
	if found < 10000 {
		t.Errorf("%d pairs were found", found)
	}
}

func TestPartsOfTexts(t *testing.T) {
	long := strings.Repeat("v", 100)
	for _, c := range []struct{ form, text, want string }{
		{"<a>", "x", "a=x"}, {"<a>", "", "none"}, {"<a>", "x y", "a=x_y"}, {"<a>", " ", "a=_"}, {"<a>", long, "a=" + long}, {"<a>", long + "v", "none"}, {"<_>", "x", "_=x"},
		{"x<a>", "xy", "a=y"}, {"x<a>", "y", "none"}, {"x<a>", "x", "none"}, {"x<a>", " xy", "none"}, {"x<a>", "yx", "none"}, {"xx<a>", "xxx", "a=x"}, {"xx<a>", "x", "none"}, {"xx<a>", "", "none"}, {"x<a>", "Xy", "none"},
		{"<a>x", "yx", "a=y"}, {"<a>x", "yxx", "none"}, {"<a>x", "yxz", "none"}, {"<a>x", "yxzx", "none"}, {"<a>x", "x", "none"}, {"<a>x", "xx", "none"}, {"<a>x", "y", "none"}, {"<a>y", "xyy", "none"}, {"<a>xy", "xxy", "a=x"}, {"<a>xy", "xyxy", "none"}, {"<a>xx", "yxxx", "none"}, {"<a>xx", "xxx", "none"}, {"<a>  ", "x  ", "a=x"}, {"<a> ", "x  ", "none"},
		{"<a> <b>", "x y", "a=x b=y"}, {"<a> <b>", "x", "none"}, {"<a> <b>", "x ", "none"}, {"<a> <b>", " y", "none"}, {"<a> <b>", "x  y", "a=x b=_y"}, {"<a> <b>", "x y z", "a=x b=y_z"}, {"<a> <b> <c>", "x y z", "a=x b=y c=z"}, {"<a> <b> <c>", "x  z", "none"}, {"<a> <b> <c>", "x y z w", "a=x b=y c=z_w"}, {"<a> <b> ", "x y ", "a=x b=y"}, {"<a> <b> ", "x y z ", "none"},
		{"<b> <a>", "x y", "a=y b=x"}, {"<c>,<a>,<b>", "1,2,3", "a=2 b=3 c=1"}, {"<b>-<A>-<a>", "1-2-3", "A=2 a=3 b=1"},
		{"<method> /<path> <code>", "GET /a/b 200", "code=200 method=GET path=a/b"}, {"<method> /<path> <code>", "GET a 200", "none"}, {"[<level>] <text>", "[warn] it is [so]", "level=warn text=it_is_[so]"}, {"<a>: <b>", "x:y: z", "a=x:y b=z"},
		{"<a", "<a", "none"}, {"<a<b>", "<a1", "b=1"}, {"<<a>", "<1", "a=1"}, {"<<a>", "1", "none"}, {"<1><a>", "<1>x", "a=x"}, {"<a><>", "x<>", "a=x"}, {"<a>><b>", "1>2", "a=1 b=2"}, {"<a>><b>", "1>>2", "a=1 b=>2"}, {"<<a>>", "<x>", "a=x"}, {"<<a>>", "<x>>", "none"}, {"<a> <a", "x <a", "a=x"},
		{"<a><b>", "xy", "none"}, {"<a> <a>", "x y", "none"}, {"", "", "none"}, {"x", "x", "none"}, {"<a>\n", "x\n", "none"}, {strings.Repeat("x", 98) + "<a>", strings.Repeat("x", 98) + "y", "none"}, {strings.Repeat("x", 97) + "<a>", strings.Repeat("x", 97) + "y", "a=y"},
		{`"<a>"`, `"x"`, "a=x"}, {`"<a>"`, `"x\""`, "none"}, {`\<a>\`, `\x\`, "a=x"}, {"<a>*<b>", "x*y", "a=x b=y"}, {"<a>*<b>", "xzy", "none"}, {"<a>?", "xy", "none"}, {"<a>|<b>", "x|y", "a=x b=y"},
	} {
		l, ok := checkParts(t, c.form, c.text)
		want := []string{"none"}
		if ok {
			want = nil
		}
		for _, x := range l {
			want = append(want, x.Name+"="+strings.ReplaceAll(x.Value, " ", "_"))
		}
		if got := strings.Join(want, " "); got != c.want {
			t.Errorf("%q of %q: %q, not %q", c.form, c.text, got, c.want)
		}
	}
	for n := 1; n <= 25; n++ {
		var holes, values []string
		for i := range n {
			holes, values = append(holes, "<"+string(rune('z'-i))+">"), append(values, strconv.Itoa(i))
		}
		l, ok := checkParts(t, strings.Join(holes, ","), strings.Join(values, ","))
		if ok != (n <= 20) || len(l) != n && ok {
			t.Errorf("%d holes: %v", n, l)
		}
	}
	// Six holes of one byte less than a value may have, but for the last one.
	for n, want := range map[int]bool{496: true, 499: true, 500: true, 501: false, 502: false} {
		text := strings.Repeat(strings.Repeat("v", 98)+",", 5) + strings.Repeat("w", n-495)
		if _, ok := checkParts(t, "<a>,<b>,<c>,<d>,<e>,<f>", text); ok != want || len(text) != n {
			t.Errorf("%d bytes: %v", len(text), ok)
		}
	}
	for c := range 256 {
		s := string([]byte{byte(c)})
		for _, form := range []string{"<a>", "<a> <b>", "x<a>", "<a>" + s, s + "<a>", "<a>" + s + "<b>"} {
			for _, text := range []string{s, "x" + s, s + "x", "x" + s + "y", "x " + s} {
				if l, ok := checkParts(t, form, text); !isPrintedModel(text) && ok {
					t.Errorf("%q of %q: %v", form, text, l)
				}
			}
		}
	}
}

func TestPartsAtRandom(t *testing.T) {
	r := newEvalAsker(221)
	fitted := 0
	for range 60000 {
		form, text := "", ""
		for range 1 + r.Intn(5) {
			form += oneOf(r.Rand, "<a>", "<b>", "<c>", "x", "y", "xy", "<", ">", " ")
		}
		for range r.Intn(8) {
			text += oneOf(r.Rand, "x", "y", "xy", "z", "<", ">", " ")
		}
		if likely(r.Rand, 2) {
			text = holeForm.ReplaceAllStringFunc(form, func(string) string { return oneOf(r.Rand, "1", "x", "y", "2x", "") })
		}
		if _, ok := checkParts(t, form, text); ok {
			fitted++
		}
	}
	if fitted < 5000 {
		t.Errorf("%d fitted", fitted)
	}
}

// pipeCase is a pipe over all times, and what comes out of it.
type pipeCase struct {
	pipe string
	want string
}

func checkPipeCases(t *testing.T, l []impl.Stream, cases []pipeCase) {
	t.Helper()
	for _, c := range cases {
		if got := streamsText(checkRunPipe(t, l, pipeOf(c.pipe), 0, maxTime)); got != c.want {
			t.Errorf("%s:\n%s, not\n%s", c.pipe, got, c.want)
		}
	}
}

func TestPipesTakeLines(t *testing.T) {
	l := []impl.Stream{
		stream(`{}`, "5 none"),
		stream(`{a="1"}`, "1 one", "3 three", "3 again", "7 seven"),
		stream(`{a="2",b="x"}`, "0 zero", "3 b", "1000000000000 last"),
	}
	all := `{} 5:none; {a="1"} 1:one 3:three 3:again 7:seven; {a="2",b="x"} 0:zero 3:b 1000000000000:last`
	for _, c := range []struct {
		from, to int
		want     string
	}{
		{0, maxTime, all}, {math.MinInt, math.MaxInt, all}, {-1, maxTime + 1, all}, {math.MinInt, 0, `{a="2",b="x"} 0:zero`}, {math.MinInt, -1, ""}, {math.MinInt, math.MinInt, ""}, {math.MaxInt, math.MaxInt, ""}, {maxTime, math.MaxInt, `{a="2",b="x"} 1000000000000:last`}, {maxTime + 1, math.MaxInt, ""}, {0, maxTime - 1, `{} 5:none; {a="1"} 1:one 3:three 3:again 7:seven; {a="2",b="x"} 0:zero 3:b`},
		{3, 3, `{a="1"} 3:three 3:again; {a="2",b="x"} 3:b`}, {2, 4, `{a="1"} 3:three 3:again; {a="2",b="x"} 3:b`}, {4, 4, ""}, {4, 3, ""}, {3, 2, ""}, {7, 1, ""}, {math.MaxInt, math.MinInt, ""}, {0, 0, `{a="2",b="x"} 0:zero`}, {1, 1, `{a="1"} 1:one`}, {5, 7, `{} 5:none; {a="1"} 7:seven`}, {8, 999999999999, ""},
	} {
		if got := streamsText(checkRunPipe(t, l, impl.Pipe{}, c.from, c.to)); got != c.want {
			t.Errorf("%d to %d: %s, not %s", c.from, c.to, got, c.want)
		}
	}
	checkPipeCases(t, l, []pipeCase{
		{`{a="1"}`, `{a="1"} 1:one 3:three 3:again 7:seven`}, {`{a!="1"}`, `{} 5:none; {a="2",b="x"} 0:zero 3:b 1000000000000:last`}, {`{a=""}`, `{} 5:none`}, {`{a=~"?"}`, `{a="1"} 1:one 3:three 3:again 7:seven; {a="2",b="x"} 0:zero 3:b 1000000000000:last`}, {`{a!~"?"}`, `{} 5:none`}, {`{a="2",b="y"}`, ""}, {`{a="2",b="x"}`, `{a="2",b="x"} 0:zero 3:b 1000000000000:last`}, {`{c="1"}`, ""}, {`{c=""}`, all},
		{`{} |= "n"`, `{} 5:none; {a="1"} 1:one 3:again 7:seven`}, {`{} |= "one"`, `{} 5:none; {a="1"} 1:one`}, {`{} |= "None"`, ""}, {`{} |= "none!"`, ""}, {`{} != "n"`, `{a="1"} 3:three; {a="2",b="x"} 0:zero 3:b 1000000000000:last`}, {`{} != "e" != "a"`, `{a="2",b="x"} 3:b`}, {`{} |= "e" |= "o"`, `{} 5:none; {a="1"} 1:one; {a="2",b="x"} 0:zero`}, {`{} |= "*"`, ""}, {`{a="1"} |= "n" != "v"`, `{a="1"} 1:one 3:again`},
		{`{} |~ "one"`, `{a="1"} 1:one`}, {`{} |~ "*one"`, `{} 5:none; {a="1"} 1:one`}, {`{} |~ "on"`, ""}, {`{} |~ "ne"`, ""}, {`{} |~ "n"`, ""}, {`{} |~ "???"`, `{a="1"} 1:one`}, {`{} |~ "*"`, all}, {`{} |~ "|one|b"`, `{a="1"} 1:one; {a="2",b="x"} 3:b`}, {`{} !~ "*e*|b"`, `{a="1"} 3:again; {a="2",b="x"} 1000000000000:last`}, {`{} !~ "one"`, `{} 5:none; {a="1"} 3:three 3:again 7:seven; {a="2",b="x"} 0:zero 3:b 1000000000000:last`}, {`{} !~ "*"`, ""}, {`{} !~ "n"`, all},
		{`{} | where a="1"`, `{a="1"} 1:one 3:three 3:again 7:seven`}, {`{} | where a=""`, `{} 5:none`}, {`{} | where b!="x"`, `{} 5:none; {a="1"} 1:one 3:three 3:again 7:seven`}, {`{} | where c=~"*"`, all}, {`{} | where c!~"*"`, ""}, {`{} | where c="1"`, ""}, {`{} | where c!="1"`, all}, {`{} | where a=~"1|2" | where b=""`, `{a="1"} 1:one 3:three 3:again 7:seven`},
		{`{} | num a > 1`, `{a="2",b="x"} 0:zero 3:b 1000000000000:last`}, {`{} | num a >= 1 | num a < 2`, `{a="1"} 1:one 3:three 3:again 7:seven`}, {`{} | num b != 1`, ""}, {`{} | num c == 0`, ""}, {`{} | num c != 0`, ""},
		{`{} | keep b`, `{} 1:one 3:three 3:again 5:none 7:seven; {b="x"} 0:zero 3:b 1000000000000:last`}, {`{} | drop b`, `{} 5:none; {a="1"} 1:one 3:three 3:again 7:seven; {a="2"} 0:zero 3:b 1000000000000:last`}, {`{} | drop a,b`, `{} 0:zero 1:one 3:three 3:again 3:b 5:none 7:seven 1000000000000:last`}, {`{} | keep c`, `{} 0:zero 1:one 3:three 3:again 3:b 5:none 7:seven 1000000000000:last`}, {`{} | keep a,b`, all}, {`{} | drop c`, all}, {`{} | keep a | keep b`, `{} 0:zero 1:one 3:three 3:again 3:b 5:none 7:seven 1000000000000:last`},
		{`{} | show "x"`, `{} 5:x; {a="1"} 1:x 3:x 3:x 7:x; {a="2",b="x"} 0:x 3:x 1000000000000:x`}, {`{} | show ""`, `{} 5:; {a="1"} 1: 3: 3: 7:; {a="2",b="x"} 0: 3: 1000000000000:`}, {`{} | show "{a}-{b}{{{value}"`, `{} 5:-{0; {a="1"} 1:1-{0 3:1-{0 3:1-{0 7:1-{0; {a="2",b="x"} 0:2-x{0 3:2-x{0 1000000000000:2-x{0`}, {`{a="1"} | show "a{a}" |= "a1" | drop a |~ "?1"`, `{} 1:a1 3:a1 3:a1 7:a1`}, {`{a="1"} | drop a | show "a{a}" |= "a1"`, ""},
	})
	for _, bad := range []impl.Pipe{staged(impl.Stage{}), staged(eachStage()[1], impl.Stage{Kind: 12}), staged(impl.Stage{Kind: 1}), {Match: manyMatchers(11)}, {Match: []impl.Matcher{{}}}, staged(slices.Repeat([]impl.Stage{{Kind: 5}}, 21)...)} {
		if got := checkRunPipe(t, l, bad, 0, maxTime); len(got) > 0 {
			t.Errorf("%+v: %v", bad, got)
		}
	}
}

// Several streams whose labels come to be alike: lines by Time, then in the order in which they were in the streams.
func TestLinesComeOutInOrder(t *testing.T) {
	l := []impl.Stream{
		stream(`{a="1",b="1"}`, "3 p", "3 q", "5 r"),
		stream(`{a="1",b="2"}`, "1 s", "3 t", "5 u", "5 v"),
		stream(`{a="2",b="1"}`, "2 w", "3 x"),
	}
	checkPipeCases(t, l, []pipeCase{
		{`{} | drop b`, `{a="1"} 1:s 3:p 3:q 3:t 5:r 5:u 5:v; {a="2"} 2:w 3:x`},
		{`{} | drop a`, `{b="1"} 2:w 3:p 3:q 3:x 5:r; {b="2"} 1:s 3:t 5:u 5:v`},
		{`{} | keep c`, `{} 1:s 2:w 3:p 3:q 3:t 3:x 5:r 5:u 5:v`},
		{`{} |~ "p|t|v|x" | drop a,b`, `{} 3:p 3:t 3:x 5:v`},
		{`{} | parts "<b>" | keep b_line`, `{b_line="p"} 3:p; {b_line="q"} 3:q; {b_line="r"} 5:r; {b_line="s"} 1:s; {b_line="t"} 3:t; {b_line="u"} 5:u; {b_line="v"} 5:v; {b_line="w"} 2:w; {b_line="x"} 3:x`},
		{`{} | parts "<z>" | drop a,b | where z=~"s|p" | show "{z}" | drop z`, `{} 1:s 3:p`},
	})
	// What comes out may be too much: of one stream more than it may have, and more streams.
	for n, want := range map[int]int{399: 399, 400: 400, 401: 0, 800: 0} {
		wide := []impl.Stream{{Labels: labelsOf("a", "1"), Lines: ticks(n/2, 0)}, {Labels: labelsOf("a", "2"), Lines: ticks(n-n/2, 0)}}
		if got := checkRunPipe(t, wide, pipeOf("{} | drop a"), 0, maxTime); linesIn(got) != want {
			t.Errorf("%d lines: %d", n, linesIn(got))
		}
		if got := checkRunPipe(t, wide, pipeOf("{}"), 0, maxTime); linesIn(got) != n {
			t.Errorf("%d lines in two: %d", n, linesIn(got))
		}
	}
	for n, want := range map[int]int{1: 1, 49: 49, 50: 50, 51: 0, 400: 0} {
		one := []impl.Stream{{Lines: ticks(n, 0)}}
		if got := checkRunPipe(t, one, pipeOf("{} | pairs"), 0, maxTime); len(got) != want {
			t.Errorf("%d streams: %d", n, len(got))
		}
	}
	for n := range 8 {
		most := manyStreams(50, 8)
		if got := checkRunPipe(t, most, pipeOf("{} | drop s"), 0, n-1); linesIn(got) != 50*n {
			t.Errorf("%d lines of each: %d", n, linesIn(got))
		}
	}
	if got := checkRunPipe(t, manyStreams(50, 9), pipeOf("{} | drop s"), 0, 9); len(got) > 0 {
		t.Errorf("450 lines: %d", linesIn(got))
	}
}

func TestLinesTellLabels(t *testing.T) {
	l := []impl.Stream{stream(`{a="0",b="0"}`, "1 a=1 c=3", "2 c=3", "3 a=1 a_line=2", "4 a_line=2 a_line_line=3 a=1", "5 b=2 a=1", "6 x")}
	checkPipeCases(t, l, []pipeCase{
		{`{} | pairs | show ""`, `{a="0",a_line="1",a_line_line="2",a_line_line_line="3",b="0"} 4:; {a="0",a_line="1",a_line_line="2",b="0"} 3:; {a="0",a_line="1",b="0",b_line="2"} 5:; {a="0",a_line="1",b="0",c="3"} 1:; {a="0",b="0"} 6:; {a="0",b="0",c="3"} 2:`},
		{`{} | drop a,b | pairs | show ""`, `{} 6:; {a="1",a_line="2"} 3:; {a="1",a_line="2",a_line_line="3"} 4:; {a="1",b="2"} 5:; {a="1",c="3"} 1:; {c="3"} 2:`},
		{`{} |= "c=" | pairs | pairs | show ""`, `{a="0",a_line="1",b="0",c="3",c_line="3"} 1:; {a="0",b="0",c="3",c_line="3"} 2:`},
		{`{} |= "c=" | pairs | pairs | pairs | show ""`, `{a="0",a_line="1",b="0",c="3",c_line="3"} 1:; {a="0",b="0",c="3",c_line="3"} 2:`},
		{`{} | parts "c=<c>"`, `{a="0",b="0",c="3"} 2:c=3`},
		{`{} | parts "a=<a> <b>" | show ""`, `{a="0",a_line="1",b="0",b_line="a_line=2"} 3:; {a="0",a_line="1",b="0",b_line="c=3"} 1:`},
		{`{} | parts "<b>=<a>" |= "x"`, ""},
		{`{} |= "x" | parts "<c>" | parts "<c>" | parts "<c>"`, `{a="0",b="0",c="x",c_line="x"} 6:x`},
		{`{} | parts "b=<z> <y>"`, `{a="0",b="0",y="a=1",z="2"} 5:b=2 a=1`},
		{`{} |= "b=" | parts "<p> <q>" | show "{q}" | pairs | show "{p}" | pairs | show "{a_line}{b_line}"`, `{a="0",a_line="1",b="0",b_line="2",p="b=2",q="a=1"} 5:12`},
	})
	long := strings.Repeat("n", 40)
	for n, want := range map[int]string{35: long[:35] + "_line", 36: "", 40: ""} {
		name := long[:n]
		s := stream(`{`+name+`="0"}`, "1 "+name+"=1 "+name+"_=2 z=3")
		p := pipeOf("{} | pairs")
		got := checkRunPipe(t, []impl.Stream{s}, p, 0, 9)
		if len(got) != 1 || (impl.ValueOf(got[0].Labels, want) == "1") != (want != "") || impl.ValueOf(got[0].Labels, "z") != "3" || impl.ValueOf(got[0].Labels, name) != "0" {
			t.Errorf("%d: %s", n, streamsText(got))
		}
	}
	// Up to as many labels as there may be, and one more.
	for n := 16; n <= 20; n++ {
		for more := range 7 {
			text := "n100=x"
			for i := range more {
				text += fmt.Sprintf(" m%d=%d", i, i)
			}
			s := impl.Stream{Labels: manyLabels(n), Lines: []impl.Line{{Time: 1, Text: text}, {Time: 2, Text: "x y"}}}
			want := 1
			if n+more+1 <= 20 {
				want = 2
			}
			if got := checkRunPipe(t, []impl.Stream{s}, pipeOf("{} | pairs"), 0, 9); linesIn(got) != want {
				t.Errorf("%d labels and %d more: %s", n, more+1, streamsText(got))
			}
			holes := []string{`"<n100>"`, `"<n100> <y>"`, `"<n101> <x> <y>"`}[more%3]
			checkRunPipe(t, []impl.Stream{s}, pipeOf("{} | parts "+holes), 0, 9)
			checkRunPipe(t, []impl.Stream{s}, pipeOf("{} | pairs | parts "+holes), 0, 9)
		}
	}
	full := impl.Stream{Labels: append(labelsOf("a", "1", "a_line", "2"), manyLabels(18)...), Lines: []impl.Line{{Time: 1, Text: "a=5 a_line=6"}, {Time: 2, Text: "a=5"}, {Time: 3, Text: "n100=5"}, {Time: 4, Text: "x"}}}
	if got := checkRunPipe(t, []impl.Stream{full}, pipeOf("{} | pairs"), 0, 9); linesIn(got) != 2 || got[0].Lines[0].Time != 2 || got[0].Lines[1].Time != 4 {
		t.Errorf("what is left out is not too much: %s", streamsText(got))
	}
	if got := checkRunPipe(t, []impl.Stream{full}, pipeOf(`{} | parts "a=<a>"`), 0, 9); linesIn(got) != 2 {
		t.Errorf("what is left out is not too much: %s", streamsText(got))
	}
	// More holes than there may be labels.
	var holes, values []string
	for i := range 25 {
		holes, values = append(holes, "<"+string(rune('a'+i))+">"), append(values, strconv.Itoa(i))
	}
	for n, want := range map[int]int{19: 1, 20: 1, 21: 0, 25: 0} {
		p := staged(impl.Stage{Kind: impl.StageParts, Text: strings.Join(holes[:n], ",")})
		if got := checkRunPipe(t, []impl.Stream{stream("{}", "1 "+strings.Join(values[:n], ","))}, p, 0, 9); len(got) != want {
			t.Errorf("%d holes: %s", n, streamsText(got))
		}
	}
}

func TestNumbersOfLines(t *testing.T) {
	values := []string{"0", "5", "6", "4", "-5", "-6", "+5", "05", "005", "-0", "00", "5.0", "5e0", "0x5", "5s", " 5", "5 ", "five", "9223372036854775807", "9223372036854775806", "9223372036854775808", "-9223372036854775808", "-9223372036854775807", "-9223372036854775809", "99999999999999999999", "1", "-1", "--5", "-", "5_0"}
	s := stream("{}", "0 none")
	for i, value := range values {
		s.Lines = append(s.Lines, impl.Line{Time: i + 1, Text: "n=" + quotedModel(value)})
	}
	for op := impl.OpSame; op <= impl.OpMost; op++ {
		for _, num := range []int{0, 5, -5, 4, 6, 1, -1, math.MinInt, math.MaxInt, math.MinInt + 1, math.MaxInt - 1} {
			p := staged(impl.Stage{Kind: impl.StagePairs}, impl.Stage{Kind: impl.StageNum, Match: impl.Matcher{Name: "n"}, Op: op, Num: num}, impl.Stage{Kind: impl.StageKeep, Names: []string{"x"}})
			got := checkRunPipe(t, []impl.Stream{s}, p, 0, maxTime)
			want := 0
			for _, value := range values {
				n, isNumber := inDigitsModel(value)
				if isNumber && []bool{n == num, n != num, n > num, n < num, n >= num, n <= num}[op-impl.OpSame] {
					want++
				}
			}
			if linesIn(got) != want {
				t.Errorf("%d, %d: %d lines, not %d", op, num, linesIn(got), want)
			}
		}
	}
	checkPipeCases(t, []impl.Stream{stream(`{n="5"}`, "1 n=7", "2 n=3"), stream(`{n="x"}`, "3 n=7")}, []pipeCase{
		{`{} | pairs | num n == 5`, `{n="5",n_line="3"} 2:n=3; {n="5",n_line="7"} 1:n=7`}, {`{} | pairs | num n_line > 5`, `{n="5",n_line="7"} 1:n=7; {n="x",n_line="7"} 3:n=7`}, {`{} | num n_line > 5`, ""}, {`{} | drop n | pairs | num n > 5`, `{n="7"} 1:n=7 3:n=7`},
	})
}

func TestLinesThatAreShown(t *testing.T) {
	v := strings.Repeat("v", 99) + "w"
	l := []impl.Stream{{Labels: labelsOf("a", v, "b", "12"), Lines: []impl.Line{{Time: 1, Text: "x"}}}}
	for n := range 8 {
		for extra := range 3 {
			text := strings.Repeat("{a}", n) + strings.Repeat("z", extra)
			whole := strings.Repeat(v, n) + strings.Repeat("z", extra)
			got := checkRunPipe(t, l, staged(impl.Stage{Kind: impl.StageShow, Text: text}), 0, 9)
			if len(got) != 1 || got[0].Lines[0].Text != whole[:min(len(whole), 500)] {
				t.Errorf("%d bytes: %s", len(whole), streamsText(got))
			}
		}
	}
	checkRunPipe(t, l, staged(impl.Stage{Kind: impl.StageShow, Text: strings.Repeat("{a}", 66)}, impl.Stage{Kind: impl.StageShow, Text: "{none}{a}{value}{none}"}), 0, 9)
	checkPipeCases(t, l, []pipeCase{
		{`{} | drop a | show "{b}{none}{value}{{b}"`, `{b="12"} 1:120{b}`}, {`{} | drop a | show "{none}"`, `{b="12"} 1:`}, {`{} | drop a,b | show "{a}{b}!"`, `{} 1:!`}, {`{} | drop a | show "c={b}" | pairs | drop b | show "{c}{c}"`, `{c="12"} 1:1212`},
	})
	// A line of any length is held against a pattern, as a whole.
	for _, n := range []int{1, 99, 100, 101, 102, 499, 500} {
		text := strings.Repeat("x", n-1) + "y"
		for _, c := range []struct {
			pattern string
			want    bool
		}{{"*", true}, {"*y", true}, {"x*y|y", true}, {"*x", false}, {"y*", n == 1}, {"?*", true}, {"x*", n > 1}, {strings.Repeat("?", 100), n == 100}, {strings.Repeat("?", 99) + "*", n >= 99}, {"*?y", n > 1}, {"*z*|", false}} {
			s := []impl.Stream{{Lines: []impl.Line{{Time: 1, Text: text}}}}
			if got := checkRunPipe(t, s, staged(impl.Stage{Kind: impl.StageLike, Text: c.pattern}), 0, 9); (len(got) == 1) != c.want {
				t.Errorf("%d bytes like %s: %v", n, c.pattern, len(got) == 1)
			}
			if got := checkRunPipe(t, s, staged(impl.Stage{Kind: impl.StageUnlike, Text: c.pattern}), 0, 9); (len(got) == 0) != c.want {
				t.Errorf("%d bytes unlike %s: %v", n, c.pattern, len(got) == 1)
			}
		}
	}
	empty := []impl.Stream{stream("{}", "1 ")}
	checkPipeCases(t, empty, []pipeCase{{"{}", "{} 1:"}, {`{} |~ "|x"`, "{} 1:"}, {`{} |~ "*"`, "{} 1:"}, {`{} |~ "?"`, ""}, {`{} |= " "`, ""}, {`{} != " "`, "{} 1:"}, {"{} | pairs", "{} 1:"}, {`{} | parts "<a>"`, ""}, {`{} | parts "x<a>"`, ""}})
}

// Promise 22: filters pushed ahead change nothing.
func TestFiltersArePushed(t *testing.T) {
	for _, c := range []struct{ pipe, want string }{
		{`{}`, `{}`}, {`{a="1"} | pairs`, `{a="1"} | pairs`}, {`{} |= "x"`, `{} |= "x"`}, {`{} |= "x" | pairs`, `{} |= "x" | pairs`},
		{`{} | pairs |= "x"`, `{} |= "x" | pairs`}, {`{} | pairs != "x"`, `{} != "x" | pairs`}, {`{} | pairs |~ "x"`, `{} |~ "x" | pairs`}, {`{} | pairs !~ "x"`, `{} !~ "x" | pairs`},
		{`{} | parts "<a>" |= "x"`, `{} |= "x" | parts "<a>"`}, {`{} | where a="1" |= "x"`, `{} |= "x" | where a="1"`}, {`{} | num a > 1 |= "x"`, `{} |= "x" | num a > 1`}, {`{} | keep a |= "x"`, `{} |= "x" | keep a`}, {`{} | drop a |= "x"`, `{} |= "x" | drop a`}, {`{} | show "" |= "x"`, `{} | show "" |= "x"`},
		{`{} | pairs | where a="1" | num a > 1 | keep a |= "x" | drop a`, `{} |= "x" | pairs | where a="1" | num a > 1 | keep a | drop a`},
		{`{} |= "1" | pairs |= "2" | keep a |= "3"`, `{} |= "1" |= "2" |= "3" | pairs | keep a`}, {`{} | pairs |= "2" != "1" |~ "0"`, `{} |= "2" != "1" |~ "0" | pairs`}, {`{} | pairs !~ "2" | pairs |= "1"`, `{} !~ "2" |= "1" | pairs | pairs`},
		{`{} | show "a" | pairs |= "x"`, `{} | show "a" |= "x" | pairs`}, {`{} | pairs | show "a" |= "x"`, `{} | pairs | show "a" |= "x"`}, {`{} | pairs | show "a" | keep a |= "x" | pairs != "y"`, `{} | pairs | show "a" |= "x" != "y" | keep a | pairs`},
		{`{} | pairs |= "1" | show "a" | pairs |= "2" | show "b" |= "3" | pairs |= "4"`, `{} |= "1" | pairs | show "a" |= "2" | pairs | show "b" |= "3" |= "4" | pairs`}, {`{} | show "a" | show "b" | keep a |= "1"`, `{} | show "a" | show "b" |= "1" | keep a`},
	} {
		p := pipeOf(c.pipe)
		checkPipe(t, p)
		if got := impl.PipeText(impl.PushFilters(p)); got != c.want {
			t.Errorf("%s: %s, not %s", c.pipe, got, c.want)
		}
	}
	// Twenty stages, the filters at their end.
	p := staged(append(slices.Repeat([]impl.Stage{{Kind: impl.StagePairs}}, 10), slices.Repeat([]impl.Stage{{Kind: impl.StageHas, Text: "x"}}, 10)...)...)
	if got := impl.PushFilters(p); !checkPipe(t, p) || got.Stages[9].Kind != impl.StageHas || got.Stages[10].Kind != impl.StagePairs {
		t.Errorf("%v", got)
	}
}

func TestLinesAreCounted(t *testing.T) {
	l := []impl.Stream{
		stream(`{}`, "5 none"),
		stream(`{_name="up",a="1"}`, "1 one", "2 two", "4 four"),
		stream(`{a="1"}`, "2 x", "2 y", "6 z"),
	}
	for _, c := range []struct {
		pipe, name     string
		from, to, step int
		want           string
	}{
		{`{}`, "n", 1, 6, 1, "n 5:1; n{a=1} 1:1 2:3 4:1 6:1"}, {`{}`, "n", 2, 6, 2, "n 6:1; n{a=1} 2:4 4:1 6:1"}, {`{}`, "n", 0, 6, 3, "n 6:1; n{a=1} 3:4 6:2"}, {`{}`, "n", 6, 6, 6, "n 6:1; n{a=1} 6:6"}, {`{}`, "n", 6, 6, 1, "n{a=1} 6:1"}, {`{}`, "n", 7, 7, 1, ""}, {`{}`, "n", 0, 0, 1, ""}, {`{}`, "n", 7, 7, 2, "n{a=1} 7:1"}, {`{}`, "n", 7, 7, 3, "n 7:1; n{a=1} 7:1"}, {`{}`, "n", 3, 3, 1, ""}, {`{}`, "n", 3, 9, 7, "n{a=1} 3:4"},
		{`{}`, "n", 10, 10, maxTime, "n 10:1; n{a=1} 10:6"}, {`{}`, "n", 0, maxTime, maxTime, "n 1000000000000:1; n{a=1} 1000000000000:6"}, {`{}`, "n", 2, 2, maxTime, "n{a=1} 2:4"}, {`{}`, "n", 0, 6, 6, "n 6:1; n{a=1} 6:6"}, {`{}`, "n", 6, 0, 6, ""}, {`{}`, "n", 0, 5, 6, ""},
		{`{a="1"}`, "n", 6, 6, 6, "n{a=1} 6:6"}, {`{_name=""}`, "n", 6, 6, 6, "n 6:1; n{a=1} 6:3"}, {`{} |= "o"`, "n", 6, 6, 6, "n 6:1; n{a=1} 6:3"}, {`{} | keep a`, "n", 6, 6, 3, "n 6:1; n{a=1} 6:2"}, {`{} | drop a`, "n", 6, 6, 6, "n 6:7"}, {`{} | parts "<b>" | keep b`, "n", 2, 2, 2, "n{b=one} 2:1; n{b=two} 2:1; n{b=x} 2:1; n{b=y} 2:1"}, {`{} | parts "<_name>" | keep _name`, "lines", 6, 6, 6, "lines 6:7"}, {`{a="2"}`, "n", 6, 6, 6, ""},
		{`{}`, "", 6, 6, 6, ""}, {`{}`, "1", 6, 6, 6, ""}, {`{}`, "a b", 6, 6, 6, ""}, {`{}`, "é", 6, 6, 6, ""}, {`{}`, strings.Repeat("n", 41), 6, 6, 6, ""}, {`{a="1"}`, strings.Repeat("n", 40), 6, 6, 6, strings.Repeat("n", 40) + "{a=1} 6:6"}, {`{}`, "_name", 6, 6, 6, "_name 6:1; _name{a=1} 6:6"},
		{`{}`, "n", -1, 6, 1, ""}, {`{}`, "n", 0, maxTime + 1, maxTime, ""}, {`{}`, "n", 6, 6, 0, ""}, {`{}`, "n", 6, 6, -1, ""}, {`{}`, "n", 6, 6, maxTime + 1, ""}, {`{}`, "n", 6, 6, math.MaxInt, ""}, {`{}`, "n", 6, 6, math.MinInt, ""}, {`{}`, "n", math.MinInt, math.MaxInt, 1, ""}, {`{}`, "n", 7, 6, 1, ""}, {`{}`, "n", math.MaxInt, math.MaxInt, 1, ""}, {`{}`, "n", math.MinInt, math.MinInt, 1, ""},
	} {
		if got := rowsText(checkLineSeries(t, l, pipeOf(c.pipe), c.name, c.from, c.to, c.step)); got != c.want {
			t.Errorf("%s, %s, %d to %d by %d: %s, not %s", c.pipe, c.name, c.from, c.to, c.step, got, c.want)
		}
	}
	for _, to := range []int{498, 499, 500, 501} {
		if got := checkLineSeries(t, l, impl.Pipe{}, "n", 0, to, 1); (len(got) == 2) != (to < 500) {
			t.Errorf("%d steps: %s", to+1, rowsText(got))
		}
	}
	for _, bad := range []impl.Pipe{staged(impl.Stage{}), {Match: manyMatchers(11)}} {
		if got := checkLineSeries(t, l, bad, "n", 6, 6, 6); got != nil {
			t.Errorf("%+v: %v", bad, got)
		}
	}
	if got := checkLineSeries(t, []impl.Stream{l[1], l[0]}, impl.Pipe{}, "n", 6, 6, 6); got != nil {
		t.Errorf("streams that do not rise: %v", got)
	}
}

func TestCountedLinesAtTheirLimits(t *testing.T) {
	// Labels with which `_name` is one too many; those that have one already are no more with it.
	few, many := impl.Stream{Labels: manyLabels(19), Lines: ticks(1, 2)}, impl.Stream{Labels: manyLabels(20), Lines: ticks(1, 5)}
	named := impl.Stream{Labels: append(labelsOf("_name", "up"), manyLabels(19)...), Lines: ticks(1, 2)}
	for _, c := range []struct {
		l    []impl.Stream
		from int
		want int
	}{{[]impl.Stream{few}, 0, 1}, {[]impl.Stream{many}, 0, 0}, {[]impl.Stream{named}, 0, 1}, {[]impl.Stream{named, few}, 0, 1}, {[]impl.Stream{few, many}, 0, 0}, {[]impl.Stream{few, many}, 6, 0}, {[]impl.Stream{many}, 6, 0}} {
		if got := checkLineSeries(t, c.l, impl.Pipe{}, "n", c.from, 9, 1); len(got) != c.want {
			t.Errorf("%s: %s", streamsText(c.l), rowsText(got))
		}
	}
	if got := checkLineSeries(t, []impl.Stream{few, many}, impl.Pipe{}, "n", 0, 4, 1); len(got) != 1 {
		t.Errorf("what comes behind all steps: %s", rowsText(got))
	}
	// Rows up to as many as a good list has, and one more.
	for n, want := range map[int]int{1: 1, 199: 199, 200: 200, 201: 0, 400: 0} {
		l := []impl.Stream{{Lines: ticks(n, 0)}}
		if got := checkLineSeries(t, l, pipeOf("{} | pairs"), "rows", 9, 499, 10); len(got) != want {
			t.Errorf("%d rows: %d", n, len(got))
		}
	}
	// At a step at which RunPipe says nothing, as it would be too much, nothing is counted.
	l := []impl.Stream{{Labels: labelsOf("a", "1"), Lines: append(ticks(400, 0)[:399], impl.Line{Time: 900, Text: "x"})}, {Labels: labelsOf("a", "2"), Lines: []impl.Line{{Time: 0, Text: "x"}, {Time: 1, Text: "y"}}}}
	if got := rowsText(checkLineSeries(t, l, pipeOf("{} | drop a"), "n", 499, 999, 500)); got != "n 999:1" {
		t.Errorf("401 lines in the first step: %s", got)
	}
	if got := rowsText(checkLineSeries(t, l, pipeOf("{} | drop a"), "n", 0, 500, 250)); got != "n 0:2 250:251 500:148" {
		t.Errorf("in three steps: %s", got)
	}
	if got := rowsText(checkLineSeries(t, manyStreams(50, 400), pipeOf("{} | drop s"), "n", 3, 399, 4)); strings.Count(got, ":200") != 100 {
		t.Errorf("200 lines at each step: %s", got)
	}
}

// lineAsker makes streams and pipes that have something to say of each other.
type lineAsker struct {
	evalAsker
}

func (a lineAsker) lineText() string {
	words := []string{}
	for range a.Intn(4) {
		words = append(words, oneOf(a.Rand, "a=1", "a=2", "b=x", "b=\"x y\"", "c=7", "c=-3", "a_line=5", "x", "y", "GET", "a=", "=", "took", `b="\"z"`, "a=\"1"))
	}
	return strings.Join(words, oneOf(a.Rand, " ", " ", "  ", "/"))
}

func (a lineAsker) streams() []impl.Stream {
	made := map[string]impl.Stream{}
	for range a.Intn(6) {
		labels := modelLabels{"a": oneOf(a.Rand, "", "1", "2", "10"), "b": oneOf(a.Rand, "", "x", "y"), "a_line": oneOf(a.Rand, "", "", "", "3"), "_name": oneOf(a.Rand, "", "", "up")}
		s, at := impl.Stream{Labels: labels.list()}, a.Intn(6)
		for range 1 + a.Intn(7) {
			s.Lines = append(s.Lines, impl.Line{Time: at, Text: a.lineText()})
			at += oneOf(a.Rand, 0, 1, 1, 2, 5)
		}
		made[labels.text()] = s
	}
	var l []impl.Stream
	for _, s := range made {
		l = append(l, s)
	}
	slices.SortFunc(l, func(a, b impl.Stream) int { return compareModel(a.Labels, b.Labels) })
	return l
}

func (a lineAsker) lineMatcher() impl.Matcher {
	x := impl.Matcher{Name: oneOf(a.Rand, "a", "b", "c", "_name", "a_line"), Op: 1 + a.Intn(4), Value: oneOf(a.Rand, "", "1", "x", "2", "up")}
	if x.Op > 2 {
		x.Value = oneOf(a.Rand, "*", "?", "1|x", "?*", "", "x*|", `\*`)
	}
	return x
}

func (a lineAsker) lineNames() []string {
	var names []string
	for range 1 + a.Intn(3) {
		names = append(names, oneOf(a.Rand, "_name", "a", "a_line", "b", "c"))
	}
	slices.Sort(names)
	return slices.Compact(names)
}

func (a lineAsker) stage() impl.Stage {
	s := impl.Stage{Kind: 1 + a.Intn(11)}
	switch s.Kind {
	case 1, 2:
		s.Text = oneOf(a.Rand, "a", "=", "x", " ", `"`, "took", "b=", `\`)
	case 3, 4:
		s.Text = oneOf(a.Rand, "*", "*a*", "?=*", "*x|*y", "*took*", "|", `*\|*`, "a*")
	case 6:
		s.Text = oneOf(a.Rand, "<a> <b>", "<c>", "a=<a>", "<b>=<a>", "<a>/<b>", "<_name> <c>", `<b>"`, "<a> ")
	case 7:
		s.Match = a.lineMatcher()
	case 8:
		s.Match.Name, s.Op, s.Num = oneOf(a.Rand, "a", "c", "a_line", "b"), 6+a.Intn(6), oneOf(a.Rand, 0, 1, 2, 7, -3, a.value())
	case 9:
		s.Text = oneOf(a.Rand, "{a}", "{b} {c}", "", "{{{_name}", "a={b} c={a}", "{value}", "x")
	case 10, 11:
		s.Names = a.lineNames()
	}
	return s
}

func (a lineAsker) pipe() impl.Pipe {
	var p impl.Pipe
	if likely(a.Rand, 4) {
		p.Match = []impl.Matcher{a.lineMatcher()}
	}
	for range a.Intn(6) {
		p.Stages = append(p.Stages, a.stage())
	}
	return p
}

// Promise 22, of streams and pipes at random.
func TestPipesAtRandom(t *testing.T) {
	said, pushed, joined, tries := 0, 0, 0, 20000
	for seed := range tries {
		a := lineAsker{newEvalAsker(int64(70000 + seed))}
		l, p := a.streams(), a.pipe()
		if !checkStreams(t, l) || !checkPipe(t, p) {
			t.Fatalf("not good: %s, %s", streamsText(l), pipeTextWhole(p))
		}
		if !same(impl.PushFilters(p), p) {
			pushed++
		}
		from := a.Intn(8) - 2
		got := checkRunPipe(t, l, p, from, from+a.Intn(20))
		if linesIn(got) > 0 {
			said++
		}
		if len(got) < len(l) && len(got) > 0 {
			joined++
		}
		for _, s := range l {
			for _, x := range s.Lines {
				checkPairs(t, x.Text)
			}
		}
	}
	if said < tries/4 || pushed < tries/6 || joined < tries/10 {
		t.Errorf("%d said something, %d were pushed, %d have fewer streams", said, pushed, joined)
	}
}

// Promise 22: lines are counted. Steps that lie step apart have all lines together that come through the pipe in that time.
func TestCountedLinesAtRandom(t *testing.T) {
	counted, tries := 0, 8000
	for seed := range tries {
		a := lineAsker{newEvalAsker(int64(95000 + seed))}
		l, p := a.streams(), a.pipe()
		from, step := a.Intn(12), 1+a.Intn(6)
		to := from + a.Intn(30)
		rows := checkLineSeries(t, l, p, oneOf(a.Rand, "n", "up", "lines"), from, to, step)
		last := from + (to-from)/step*step
		if want := linesIn(impl.RunPipe(l, p, from-step+1, last)); countedIn(rows) != want {
			t.Fatalf("%s, %s, %d to %d by %d: %s, which are not %d lines", streamsText(l), pipeTextWhole(p), from, to, step, rowsText(rows), want)
		}
		if countedIn(rows) > 1 {
			counted++
		}
	}
	if counted < tries/4 {
		t.Errorf("%d were counted", counted)
	}
}

// wrongedPipe is a pipe of which one thing is changed at random.
func (a lineAsker) wrongedPipe(p impl.Pipe) impl.Pipe {
	p = laid(p, 0)
	if len(p.Stages) == 0 || likely(a.Rand, 8) {
		p.Match = append(p.Match, oneOf(a.Rand, badMatchers()...)...)
		return p
	}
	s := &p.Stages[a.Intn(len(p.Stages))]
	text := oneOf(a.Rand, "", "x", "<a>", "<a><b>", "{", `\`, "\n", strings.Repeat("x", 101))
	switch a.Intn(8) {
	case 0:
		s.Kind = oneOf(a.Rand, -1, 0, 1+a.Intn(11), 12, math.MaxInt, math.MinInt)
	case 1:
		s.Text = text
	case 2:
		s.Op = oneOf(a.Rand, 0, 5, 6+a.Intn(6), 12, -1, math.MinInt)
	case 3:
		s.Num = oneOf(a.Rand, 0, 1, -1, math.MaxInt)
	case 4:
		s.Names = append(s.Names, oneOf(a.Rand, "", "a", "z", "1"))
	case 5:
		s.Match.Name = oneOf(a.Rand, "", "a", "1")
	case 6:
		s.Match.Op = a.Intn(7) - 1
	default:
		s.Match.Value = text
	}
	return p
}

// wrongedStreams are streams of which one thing is changed at random.
func (a lineAsker) wrongedStreams(l []impl.Stream) []impl.Stream {
	l = laid(l, 0)
	if len(l) == 0 {
		return []impl.Stream{{}}
	}
	at := a.Intn(len(l))
	x := &l[at].Lines[a.Intn(len(l[at].Lines))]
	switch a.Intn(6) {
	case 0:
		x.Time = oneOf(a.Rand, -1, 0, 3, maxTime, maxTime+1, math.MinInt, math.MaxInt)
	case 1:
		x.Text = oneOf(a.Rand, "", "\n", "é", strings.Repeat("x", 501))
	case 2:
		l[at].Labels = oneOf(a.Rand, append(badLabels(), nil)...)
	case 3:
		l[at].Lines = nil
	case 4:
		l = append(l, l[at])
	default:
		l[0], l[at] = l[at], l[0]
	}
	return l
}

// Promise 27: the functions answer at any arguments.
func TestLinesOfAnything(t *testing.T) {
	goodPipes, goodStreams, tries := 0, 0, 10000
	for seed := range tries {
		a := lineAsker{newEvalAsker(int64(120000 + seed))}
		l, p := a.streams(), a.pipe()
		if likely(a.Rand, 2) {
			l = a.wrongedStreams(l)
		} else {
			p = a.wrongedPipe(p)
		}
		if checkStreams(t, l) {
			goodStreams++
		}
		if checkPipe(t, p) {
			goodPipes++
		}
		wild := func() int { return oneOf(a.Rand, 0, 3, 9, -1, math.MinInt, math.MaxInt, maxTime, maxTime+1) }
		checkRunPipe(t, l, p, wild(), wild())
		checkLineSeries(t, l, p, oneOf(a.Rand, "n", "", "1", "up"), wild(), wild(), wild())
		checkLineSeries(t, l, p, "n", 4, 9, 3)
	}
	if goodPipes < tries/4 || goodPipes > tries*9/10 || goodStreams < tries/4 || goodStreams > tries*9/10 {
		t.Errorf("%d pipes and %d streams are good", goodPipes, goodStreams)
	}
	r := newEvalAsker(222)
	for range 3000 {
		text := randomOf(r.Rand, "{}=|~!<>\"\\ ab1\xff\x00", 40)
		checkReadPipe(t, text)
		checkReadPipe(t, "{} "+text)
		checkPairs(t, text)
		checkParts(t, text, text)
		checkParts(t, "<a>"+text, text)
	}
}

// Promise 27: answers are new memory: what is written into one shows in no other, and in no argument.
func TestAnswersOfLinesAreNew(t *testing.T) {
	l := []impl.Stream{stream(`{a="1",b="2"}`, "1 c=3", "2 c=4"), stream(`{a="2"}`, "1 c=3")}
	p := pipeOf(`{a!="",b!~"z"} | pairs |= "c" | keep a,b,c | drop x,y |~ "*"`)
	arg, kept := guarded(l)
	pipe, pipeKept := guarded(p)
	for range 2 {
		got := impl.RunPipe(arg, pipe, 0, 9)
		if streamsText(got) != `{a="1",b="2",c="3"} 1:c=3; {a="1",b="2",c="4"} 2:c=4; {a="2",c="3"} 1:c=3` {
			t.Fatalf("%s", streamsText(got))
		}
		for i := range got {
			others := laid(got, 0)
			scribble(got[i].Labels)
			clear(got[i].Lines[:cap(got[i].Lines)])
			for j := range got {
				if j != i && !same(got[j], others[j]) {
					t.Fatalf("what is written into %d shows in %d", i, j)
				}
			}
		}
		rows := impl.LineSeries(arg, pipe, "n", 1, 3, 1)
		if rowsText(rows) != "n{a=1,b=2,c=3} 1:1; n{a=1,b=2,c=4} 2:1; n{a=2,c=3} 1:1" {
			t.Fatalf("%s", rowsText(rows))
		}
		for i := range rows {
			others := laid(rows, 0)
			scribble(rows[i].Labels)
			clear(rows[i].Samples[:cap(rows[i].Samples)])
			for j := range rows {
				if j != i && !same(rows[j], others[j]) {
					t.Fatalf("what is written into %d shows in %d", i, j)
				}
			}
		}
		for _, from := range []impl.Pipe{impl.PushFilters(pipe), pipeOf(impl.PipeText(p))} {
			clear(from.Match[:cap(from.Match)])
			for _, s := range from.Stages {
				clear(s.Names[:cap(s.Names)])
			}
			clear(from.Stages[:cap(from.Stages)])
		}
		read, _ := impl.ReadPipe(impl.PipeText(p))
		for i, s := range read.Stages {
			others := laid(read.Stages, 0)
			clear(s.Names[:cap(s.Names)])
			for j := range read.Stages {
				if j != i && !same(read.Stages[j], others[j]) {
					t.Fatalf("what is written into %d shows in %d", i, j)
				}
			}
		}
		scribble(impl.PairsOf("a=1 b=2"))
		parts, _ := impl.PartsOf("<a> <b>", "1 2")
		scribble(parts)
		if !kept() || !pipeKept() || !slices.Equal(impl.PairsOf("a=1 b=2"), labelsOf("a", "1", "b", "2")) {
			t.Fatal("what is written into an answer shows")
		}
	}
}

// As many lines as there may be, as long as they may be, through as many stages.
func TestLinesOfMuch(t *testing.T) {
	text := strings.Repeat(`n="\\\"" m=x `, 38)
	text += strings.Repeat("y", 500-len(text))
	l := manyStreams(50, 400)
	for _, s := range l {
		for i := range s.Lines {
			s.Lines[i].Text = text
		}
	}
	begin := time.Now()
	for told, want := range map[string]int{
		`| pairs | keep s`: 20000, `|~ "*x*x*x*x*y"`: 20000, `!~ "*x*x*x*x*z*|*yx"`: 20000, `| where s=~"*3*|*"`: 20000, `| show "` + strings.Repeat("{s}", 66) + `"`: 20000, `!= "yx"`: 20000,
		`| parts "n=<n> m=<m> y"`: 0, `| num s >= 100`: 20000, `| num s > 100`: 19600, `| drop m,n`: 20000,
	} {
		stages := pipeOf("{} " + told).Stages
		p := staged(slices.Repeat(stages, 20/len(stages))...)
		if got := linesIn(impl.RunPipe(l, p, 0, maxTime)); got != want {
			t.Errorf("%s: %d lines", told, got)
		}
		if got := countedIn(impl.LineSeries(l, p, "n", 0, 499, 1)); got != want {
			t.Errorf("%s: %d lines were counted", told, got)
		}
	}
	if spent := time.Since(begin); spent > 60*time.Second {
		t.Errorf("it took %v", spent)
	}
}
