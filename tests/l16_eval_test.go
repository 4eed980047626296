package tests

import (
	"fmt"
	"maps"
	"math"
	"math/big"
	"math/rand"
	"slices"
	"strconv"
	"strings"
	"testing"

	"loop.example/g00039/impl"
)

const (
	maxTouched  = 50000
	maxSubSteps = 1000
	maxSteps    = 500
)

// wrapped is a number of any size as an int, as ints wrap.
func wrapped(n *big.Int) int {
	word := new(big.Int).And(n, new(big.Int).SetUint64(math.MaxUint64))
	return int(word.Uint64())
}

func quotientModel(a int, b int) int {
	if b == 0 {
		return 0
	}
	// With a divisor above 0 Euclid's quotient is the one that is rounded down.
	x, y := big.NewInt(int64(a)), big.NewInt(int64(b))
	if b < 0 {
		x.Neg(x)
		y.Neg(y)
	}
	return wrapped(new(big.Int).Div(x, y))
}

func quantileModel(values []int, q int) (int, bool) {
	if !isWithin(len(values), 1, 2000) {
		return 0, false
	}
	sorted := slices.Clone(values)
	slices.Sort(sorted)
	q = min(max(q, 0), 1000)
	r := q * (len(sorted) - 1)
	v := sorted[r/1000]
	if r%1000 != 0 {
		v += quotientModel((sorted[r/1000+1]-v)*(r%1000), 1000)
	}
	return v, true
}

// modelErr is what a model of an evaluation ends with.
type modelErr int

// modelLabels are labels by their names.
type modelLabels map[string]string

type modelItem struct {
	labels modelLabels
	value  int
	time   int
}

type modelRow struct {
	labels  modelLabels
	samples []impl.Sample
}

// modelValue is what a node says. Of a selection its items have times.
type modelValue struct {
	kind   string
	number int
	text   string
	items  []modelItem
	rows   []modelRow
	timed  bool
	moment int
	num    int
}

func toModel(l []impl.Label) modelLabels {
	out := modelLabels{}
	for _, x := range l {
		out[x.Name] = x.Value
	}
	return out
}

// list tells labels in their order; those with no value are none.
func (l modelLabels) list() []impl.Label {
	var out []impl.Label
	for _, name := range slices.Sorted(maps.Keys(l)) {
		if l[name] != "" {
			out = append(out, impl.Label{Name: name, Value: l[name]})
		}
	}
	return out
}

func (l modelLabels) text() string {
	return labelsTextModel(l.list())
}

// without tells the labels but for some.
func (l modelLabels) without(names ...string) modelLabels {
	out := maps.Clone(l)
	for _, name := range names {
		delete(out, name)
	}
	return out
}

func (l modelLabels) bare() modelLabels {
	return l.without("_name")
}

// only tells the labels under some names.
func (l modelLabels) only(names ...string) modelLabels {
	out := modelLabels{}
	for _, name := range names {
		if l[name] != "" {
			out[name] = l[name]
		}
	}
	return out
}

// madeItems takes items one by one, and ends with the first that can't be among them.
type madeItems struct {
	list []modelItem
	seen map[string]bool
}

func (m *madeItems) add(labels modelLabels, value int) {
	if !goodLabelsModel(labels.list()) {
		panic(modelErr(impl.ErrLabel))
	}
	if m.seen == nil {
		m.seen = map[string]bool{}
	}
	text := labels.text()
	if m.seen[text] {
		panic(modelErr(impl.ErrTwins))
	}
	m.seen[text] = true
	m.list = append(m.list, modelItem{labels: labels, value: value})
}

func sortedItems(l []modelItem) []modelItem {
	slices.SortStableFunc(l, func(a, b modelItem) int { return compareModel(a.labels.list(), b.labels.list()) })
	return l
}

func (m *madeItems) vector() modelValue {
	return modelValue{kind: "vector", items: sortedItems(m.list)}
}

// evalModel says what a question does by its rows, the kids found by counting.
type evalModel struct {
	list    []impl.Series
	q       []impl.Query
	touched int
}

func (e *evalModel) touch(n int) {
	e.touched += n
	if e.touched > maxTouched {
		panic(modelErr(impl.ErrTouched))
	}
}

// behind is the row behind the tree that begins at a row.
func (e *evalModel) behind(i int) int {
	for left := 1; left > 0; i++ {
		left += e.q[i].Kids - 1
	}
	return i
}

func momentModel(x impl.Query, time int) int {
	if x.Fixed {
		return x.At - x.Offset
	}
	return time - x.Offset
}

func (e *evalModel) fitting(x impl.Query) []impl.Series {
	var out []impl.Series
	for _, s := range e.list {
		named := x.Text == "" || toModel(s.Labels)["_name"] == x.Text
		if named && fitsAllModel(x.Match, s.Labels) {
			out = append(out, s)
		}
	}
	return out
}

func (e *evalModel) selected(x impl.Query, time int) modelValue {
	v := modelValue{kind: "vector", timed: true}
	for _, s := range e.fitting(x) {
		if at, ok := sampleAtModel(s.Samples, momentModel(x, time), 300); ok {
			v.items = append(v.items, modelItem{toModel(s.Labels), at.Value, at.Time})
			e.touch(1)
		}
	}
	return v
}

func (e *evalModel) span(x impl.Query, of impl.Query, time int) modelValue {
	v := modelValue{kind: "range", moment: momentModel(of, time), num: x.Num}
	for _, s := range e.fitting(of) {
		row := modelRow{labels: toModel(s.Labels)}
		for _, at := range s.Samples {
			if at.Time > v.moment-v.num && at.Time <= v.moment && at.Value != math.MinInt {
				row.samples = append(row.samples, at)
				e.touch(1)
			}
		}
		if row.samples != nil {
			v.rows = append(v.rows, row)
		}
	}
	return v
}

// rowsModel16 puts what is said at times into rows.
func rowsModel16(ask func(time int) modelValue, times []int) []modelRow {
	rows := map[string]*modelRow{}
	for _, time := range times {
		v := ask(time)
		if v.kind == "number" {
			v.items = []modelItem{{labels: modelLabels{}, value: v.number}}
		}
		for _, x := range v.items {
			text := x.labels.text()
			if rows[text] == nil {
				rows[text] = &modelRow{labels: x.labels}
			}
			rows[text].samples = append(rows[text].samples, impl.Sample{Time: time, Value: x.value})
		}
	}
	var out []modelRow
	for _, row := range rows {
		out = append(out, *row)
	}
	slices.SortFunc(out, func(a, b modelRow) int { return compareModel(a.labels.list(), b.labels.list()) })
	return out
}

func (e *evalModel) sub(i int, time int) modelValue {
	x := e.q[i]
	v := modelValue{kind: "range", moment: momentModel(x, time), num: x.Num}
	var times []int
	k := 0
	if v.moment > x.Num {
		k = (v.moment - x.Num) / x.Step
	}
	for ; k*x.Step <= v.moment; k++ {
		if k*x.Step > v.moment-x.Num {
			times = append(times, k*x.Step)
		}
		if len(times) > maxSubSteps {
			panic(modelErr(impl.ErrSubs))
		}
	}
	v.rows = rowsModel16(func(time int) modelValue { return e.value(i+1, time) }, times)
	return v
}

// value says what the tree that begins at a row does.
func (e *evalModel) value(i int, time int) modelValue {
	e.touch(1)
	x := e.q[i]
	switch x.Kind {
	case impl.QNum:
		return modelValue{kind: "number", number: x.Num}
	case impl.QText:
		return modelValue{kind: "text", text: x.Text}
	case impl.QSelect:
		return e.selected(x, time)
	case impl.QRange:
		return e.span(x, e.q[i+1], time)
	case impl.QSub:
		return e.sub(i, time)
	}
	var kids []modelValue
	at := i + 1
	for range x.Kids {
		kids = append(kids, e.value(at, time))
		at = e.behind(at)
	}
	switch x.Kind {
	case impl.QNeg:
		return negModel(kids[0])
	case impl.QOp:
		return opModel(x, kids[0], kids[1])
	case impl.QAgg:
		return aggregateModel(x, kids)
	}
	return callModel(x.Text, time, kids)
}

func negModel(v modelValue) modelValue {
	if v.kind == "number" {
		return modelValue{kind: "number", number: 0 - v.number}
	}
	var made madeItems
	for _, x := range v.items {
		made.add(x.labels.bare(), 0-x.value)
	}
	return made.vector()
}

// reckonModel tells what an operation makes of two values; false by 0.
func reckonModel(op int, a int, b int) (int, bool) {
	isSo := map[int]bool{impl.OpSame: a == b, impl.OpNot: a != b, impl.OpMore: a > b, impl.OpLess: a < b, impl.OpLeast: a >= b, impl.OpMost: a <= b}
	switch op {
	case impl.OpAdd:
		return a + b, true
	case impl.OpSub:
		return a - b, true
	case impl.OpMul:
		return a * b, true
	case impl.OpDiv:
		return quotientModel(a, b), b != 0
	case impl.OpMod:
		return a - quotientModel(a, b)*b, b != 0
	}
	if isSo[op] {
		return 1, true
	}
	return 0, true
}

func opModel(x impl.Query, left modelValue, right modelValue) modelValue {
	filter := isWithin(x.Op, impl.OpSame, impl.OpMost) && !x.Bool
	switch left.kind + " " + right.kind {
	case "number number":
		v, ok := reckonModel(x.Op, left.number, right.number)
		if !ok {
			panic(modelErr(impl.ErrZero))
		}
		return modelValue{kind: "number", number: v}
	case "vector vector":
		if x.Op >= impl.OpAnd {
			return setModel(x, left.items, right.items)
		}
		return pairsModel(x, filter, left.items, right.items)
	}
	var made madeItems
	for _, item := range append(slices.Clone(left.items), right.items...) {
		a, b := item.value, right.number
		if left.kind == "number" {
			a, b = left.number, item.value
		}
		v, ok := reckonModel(x.Op, a, b)
		switch {
		case filter && v == 1:
			made.add(item.labels, item.value)
		case !filter && ok:
			made.add(item.labels.bare(), v)
		}
	}
	return made.vector()
}

// keyModel is the text of an item's key.
func keyModel(x impl.Query, l modelLabels) string {
	switch x.By {
	case impl.ByOn:
		return l.only(x.Names...).text()
	case impl.ByWithout:
		return l.bare().without(x.Names...).text()
	}
	return l.bare().text()
}

func keysModel(x impl.Query, items []modelItem) []string {
	var out []string
	for _, item := range items {
		out = append(out, keyModel(x, item.labels))
	}
	return out
}

func setModel(x impl.Query, left []modelItem, right []modelItem) modelValue {
	var made madeItems
	lefts, rights := keysModel(x, left), keysModel(x, right)
	for i, item := range left {
		if x.Op == impl.OpOr || slices.Contains(rights, lefts[i]) == (x.Op == impl.OpAnd) {
			made.add(item.labels, item.value)
		}
	}
	for i, item := range right {
		if x.Op == impl.OpOr && !slices.Contains(lefts, rights[i]) {
			made.add(item.labels, item.value)
		}
	}
	return made.vector()
}

func countOf(list []string, s string) int {
	n := 0
	for _, x := range list {
		if x == s {
			n++
		}
	}
	return n
}

func pairsModel(x impl.Query, filter bool, left []modelItem, right []modelItem) modelValue {
	lefts, rights := keysModel(x, left), keysModel(x, right)
	for _, key := range lefts {
		a, b := countOf(lefts, key), countOf(rights, key)
		if b > 1 && x.Side != impl.SideRight || a > 1 && b > 0 && x.Side != impl.SideLeft {
			panic(modelErr(impl.ErrMatches))
		}
	}
	var made madeItems
	for i, a := range left {
		for j, b := range right {
			v, ok := reckonModel(x.Op, a.value, b.value)
			if lefts[i] != rights[j] || !ok || filter && v == 0 {
				continue
			}
			if filter {
				v = a.value
			}
			made.add(pairModel(x, filter, a.labels, b.labels), v)
		}
	}
	return made.vector()
}

func pairModel(x impl.Query, filter bool, left modelLabels, right modelLabels) modelLabels {
	own, other := left, right
	switch {
	case x.Side == impl.SideRight:
		own, other = right, left
	case x.Side == impl.SideNone && filter:
		return left
	case x.Side == impl.SideNone && x.By == impl.ByOn:
		return left.only(x.Names...)
	case x.Side == impl.SideNone:
		return left.bare().without(x.Names...)
	}
	out := own.bare()
	for _, name := range x.Extra {
		out[name] = other[name]
	}
	if filter && own["_name"] != "" {
		out["_name"] = own["_name"]
	}
	return toModel(out.list())
}

func aggregateModel(x impl.Query, kids []modelValue) modelValue {
	items := kids[len(kids)-1].items
	groups, labels := map[string][]modelItem{}, map[string]modelLabels{}
	for _, item := range items {
		l := modelLabels{}
		switch x.By {
		case impl.ByOn:
			l = item.labels.only(x.Names...)
		case impl.ByWithout:
			l = item.labels.bare().without(x.Names...)
		}
		groups[l.text()] = append(groups[l.text()], item)
		labels[l.text()] = l
	}
	var made madeItems
	for text, group := range groups {
		var values []int
		for _, item := range group {
			values = append(values, item.value)
		}
		if x.Op == impl.AggTop || x.Op == impl.AggBottom {
			for _, item := range firstModel(x.Op == impl.AggTop, group, kids[0].number) {
				made.add(item.labels, item.value)
			}
			continue
		}
		all := aggModel(0, values)
		v := []int{0, all.Sum, all.Min, all.Max, quotientModel(all.Sum, all.Count), all.Count, 0, 0, 0}[x.Op]
		if x.Op == impl.AggQuantile {
			v, _ = quantileModel(values, kids[0].number)
		}
		made.add(labels[text], v)
	}
	return made.vector()
}

// firstModel takes the best of the items that are left, one after the other; they rise by labels.
func firstModel(greatest bool, items []modelItem, n int) []modelItem {
	left := slices.Clone(items)
	var out []modelItem
	for len(out) < n && len(left) > 0 {
		best := 0
		for i, x := range left {
			if greatest && x.value > left[best].value || !greatest && x.value < left[best].value {
				best = i
			}
		}
		out = append(out, left[best])
		left = slices.Delete(left, best, best+1)
	}
	return out
}

// rowModel tells what a function makes of the samples of a row; false where it makes nothing.
func rowModel(name string, l []impl.Sample, of modelValue, number int) (int, bool) {
	overNames := map[string]int{"sum_over": 2, "min_over": 3, "max_over": 4, "avg_over": 5, "count_over": 1, "last_over": 8, "rise": 6}
	first, last := l[0], l[len(l)-1]
	n := len(l)
	var values []int
	changes, resets := 0, 0
	for i, s := range l {
		values = append(values, s.Value)
		if i > 0 && s.Value != l[i-1].Value {
			changes++
		}
		if i > 0 && s.Value < l[i-1].Value {
			resets++
		}
	}
	switch name {
	case "delta":
		return last.Value - first.Value, true
	case "changes":
		return changes, true
	case "resets":
		return resets, true
	case "quantile_over":
		return quantileModel(values, number)
	case "rate":
		return rateModel(l, of)
	case "predict":
		var sx, sv, sxx, sxv int
		for _, s := range l {
			x := s.Time - of.moment
			sx, sv, sxx, sxv = sx+x, sv+s.Value, sxx+x*x, sxv+x*s.Value
		}
		d := n*sxx - sx*sx
		if n*d <= 0 {
			return 0, n > 1
		}
		return quotientModel(sv*d+(n*sxv-sx*sv)*(n*number-sx), n*d), n > 1
	}
	return sampleOverModel(l, -1, maxTime, overNames[name])
}

func rateModel(l []impl.Sample, of modelValue) (int, bool) {
	n := len(l)
	if n < 2 {
		return 0, false
	}
	rise, _ := sampleOverModel(l, -1, maxTime, impl.OverRise)
	s := l[n-1].Time - l[0].Time
	g := s / (n - 1)
	a, b := l[0].Time-(of.moment-of.num), of.moment-l[n-1].Time
	if a*10 > g*11 {
		a = g / 2
	}
	if b*10 > g*11 {
		b = g / 2
	}
	return quotientModel(quotientModel(rise*(s+a+b), s)*1000, of.num), true
}

func callModel(name string, time int, kids []modelValue) modelValue {
	var made madeItems
	switch name {
	case "time":
		return modelValue{kind: "number", number: time}
	case "scalar":
		v := modelValue{kind: "number"}
		if len(kids[0].items) == 1 {
			v.number = kids[0].items[0].value
		}
		return v
	case "vector":
		made.add(modelLabels{}, kids[0].number)
	case "absent":
		if len(kids[0].items) == 0 {
			made.add(modelLabels{}, 1)
		}
	case "hist_quantile":
		var items []impl.Item
		for _, x := range kids[1].items {
			items = append(items, impl.Item{Labels: x.labels.list(), Value: x.value})
		}
		for _, x := range histModel(items, kids[0].number) {
			made.add(toModel(x.Labels), x.Value)
		}
	case "abs", "clamp", "timestamp":
		for _, x := range kids[0].items {
			v := x.value
			switch {
			case name == "timestamp" && kids[0].timed:
				v = x.time
			case name == "timestamp":
				v = time
			case name == "abs" && v < 0:
				v = 0 - v
			case name == "clamp" && kids[1].number > kids[2].number:
				continue
			case name == "clamp" && v < kids[1].number:
				v = kids[1].number
			case name == "clamp" && v > kids[2].number:
				v = kids[2].number
			}
			made.add(x.labels.bare(), v)
		}
	case "label_set", "label_join":
		labelsCallModel(&made, name, kids)
	default:
		of, number := kids[0], 0
		if name == "quantile_over" {
			of, number = kids[1], kids[0].number
		}
		if name == "predict" {
			number = kids[1].number
		}
		for _, row := range of.rows {
			v, ok := rowModel(name, row.samples, of, number)
			switch {
			case ok && name == "last_over":
				made.add(row.labels, v)
			case ok:
				made.add(row.labels.bare(), v)
			}
		}
	}
	return made.vector()
}

func labelsCallModel(made *madeItems, name string, kids []modelValue) {
	to := kids[1].text
	rule := impl.Relabel{Action: impl.RelSet, To: to, Value: kids[2].text, From: []string{kids[3].text}}
	if name == "label_set" {
		rule.Pattern = kids[4].text
		if !goodRelabelModel(rule) {
			panic(modelErr(impl.ErrLabel))
		}
	}
	for _, kid := range append(slices.Clone(kids[3:]), kids[1]) {
		if name == "label_join" && !isNameModel(kid.text) {
			panic(modelErr(impl.ErrLabel))
		}
	}
	for _, x := range kids[0].items {
		labels := maps.Clone(x.labels)
		if name == "label_set" {
			l, kept := applyModel(x.labels.list(), rule)
			if !kept {
				panic(modelErr(impl.ErrLabel))
			}
			labels = toModel(l)
		} else {
			labels[to] = ""
			for i, kid := range kids[3:] {
				if i > 0 {
					labels[to] += kids[2].text
				}
				labels[to] += x.labels[kid.text]
			}
			labels = toModel(labels.list())
		}
		made.add(labels, x.value)
	}
}

func histModel(items []impl.Item, q int) []impl.Item {
	if len(items) > 200 {
		return nil
	}
	for i, x := range items {
		if !goodLabelsModel(x.Labels) || i > 0 && compareModel(items[i-1].Labels, x.Labels) != -1 {
			return nil
		}
	}
	q = min(max(q, 0), 1000)
	type part struct {
		bound, value int
	}
	parts, infs, labels := map[string][]part{}, map[string][]int{}, map[string]modelLabels{}
	for _, x := range items {
		l := toModel(x.Labels)
		rest := l.bare().without("le")
		labels[rest.text()] = rest
		if l["le"] == "inf" {
			infs[rest.text()] = append(infs[rest.text()], x.Value)
		}
		if n, ok := inDigitsModel(l["le"]); ok {
			parts[rest.text()] = append(parts[rest.text()], part{n, x.Value})
		}
	}
	var made madeItems
	for text, l := range labels {
		list, all := parts[text], infs[text]
		if len(list) == 0 || len(all) == 0 || all[len(all)-1] <= 0 {
			continue
		}
		c := all[len(all)-1]
		slices.SortStableFunc(list, func(a, b part) int {
			if a.bound < b.bound {
				return -1
			}
			if a.bound > b.bound {
				return 1
			}
			return 0
		})
		value := list[len(list)-1].bound
		ahead := part{}
		for i, p := range list {
			if p.value*1000 < q*c {
				ahead = p
				continue
			}
			value = p.bound
			if p.value > ahead.value && (i > 0 || p.bound > 0) {
				value = ahead.bound + quotientModel((q*c-1000*ahead.value)*(p.bound-ahead.bound), 1000*(p.value-ahead.value))
			}
			break
		}
		made.add(l, value)
	}
	var out []impl.Item
	for _, x := range made.vector().items {
		out = append(out, impl.Item{Labels: x.labels.list(), Value: x.value})
	}
	return out
}

// caught runs a model, and tells the Err that it ends with.
func caught(run func()) (err int) {
	defer func() {
		if e := recover(); e != nil {
			err = int(e.(modelErr))
		}
	}()
	run()
	return 0
}

func seriesOfRows(rows []modelRow) []impl.Series {
	var out []impl.Series
	for _, row := range rows {
		out = append(out, impl.Series{Labels: row.labels.list(), Samples: row.samples})
	}
	return out
}

func evalQueryModel(list []impl.Series, q []impl.Query, time int) impl.EvalRes {
	if !goodSeriesModel(list) || kindModel(q) == "" || !isWithin(time, 0, maxTime) {
		return impl.EvalRes{Err: impl.ErrAsked}
	}
	var v modelValue
	e := evalModel{list: list, q: q}
	if err := caught(func() { v = e.value(0, time) }); err != 0 {
		return impl.EvalRes{Err: err}
	}
	out := impl.EvalRes{Number: v.number, Text: v.text, Rows: seriesOfRows(v.rows)}
	for _, x := range v.items {
		out.Items = append(out.Items, impl.Item{Labels: x.labels.list(), Value: x.value})
	}
	return out
}

// stepsModel tells the steps from one time to another, false where they are not as said.
func stepsModel(from int, to int, step int) ([]int, bool) {
	if !isWithin(from, 0, maxTime) || !isWithin(to, from, maxTime) || !isWithin(step, 1, maxTime) {
		return nil, false
	}
	var out []int
	for time := from; time <= to && len(out) <= maxSteps; time += step {
		out = append(out, time)
	}
	return out, len(out) <= maxSteps
}

func evalRangeModel(list []impl.Series, q []impl.Query, from int, to int, step int) impl.RangeRes {
	kind := kindModel(q)
	steps, ok := stepsModel(from, to, step)
	if !goodSeriesModel(list) || kind != "number" && kind != "vector" || !ok {
		return impl.RangeRes{Err: impl.ErrAsked}
	}
	var rows []modelRow
	e := evalModel{list: list, q: q}
	err := caught(func() {
		rows = rowsModel16(func(time int) modelValue { return e.value(0, time) }, steps)
	})
	if err != 0 {
		return impl.RangeRes{Err: err}
	}
	return impl.RangeRes{Rows: seriesOfRows(rows)}
}

// checkEval holds EvalQuery against the model, and sees that it writes nowhere and shares no memory.
func checkEval(t *testing.T, list []impl.Series, q []impl.Query, time int) impl.EvalRes {
	t.Helper()
	listArg, listKept := guarded(list)
	qArg, qKept := guarded(q)
	got, want := impl.EvalQuery(listArg, qArg, time), evalQueryModel(list, q, time)
	if !same(got, want) {
		t.Fatalf("%s at %d of %s:\n%s, not\n%s", shortly(impl.QueryText(q)), time, shortly(list), shortly(evalText(got)), shortly(evalText(want)))
	}
	if !listKept() || !qKept() {
		t.Fatalf("%s at %d writes into an argument", shortly(impl.QueryText(q)), time)
	}
	checkOwn(t, got, listArg, qArg)
	return got
}

func checkEvalRange(t *testing.T, list []impl.Series, q []impl.Query, from int, to int, step int) impl.RangeRes {
	t.Helper()
	listArg, listKept := guarded(list)
	qArg, qKept := guarded(q)
	got, want := impl.EvalRange(listArg, qArg, from, to, step), evalRangeModel(list, q, from, to, step)
	if !same(got, want) {
		t.Fatalf("%s from %d to %d by %d of %s:\n%s, not\n%s", shortly(impl.QueryText(q)), from, to, step, shortly(list), shortly(got), shortly(want))
	}
	if !listKept() || !qKept() {
		t.Fatalf("%s from %d to %d by %d writes into an argument", shortly(impl.QueryText(q)), from, to, step)
	}
	checkOwn(t, got, listArg, qArg)
	return got
}

// plainLabels tells labels shortly: m{a=1,b=2}, {} for none.
func plainLabels(l []impl.Label) string {
	name, rest := "", []string{}
	for _, x := range l {
		if x.Name == "_name" {
			name = x.Value
		} else {
			rest = append(rest, x.Name+"="+x.Value)
		}
	}
	if name != "" && len(rest) == 0 {
		return name
	}
	return name + "{" + strings.Join(rest, ",") + "}"
}

func rowsText(rows []impl.Series) string {
	var out []string
	for _, row := range rows {
		text := plainLabels(row.Labels)
		for _, s := range row.Samples {
			text += fmt.Sprintf(" %d:%d", s.Time, s.Value)
		}
		out = append(out, text)
	}
	return strings.Join(out, "; ")
}

// evalText tells an answer shortly.
func evalText(r impl.EvalRes) string {
	var out []string
	if r.Err != 0 {
		out = append(out, fmt.Sprint("err ", r.Err))
	}
	if r.Number != 0 {
		out = append(out, fmt.Sprint(r.Number))
	}
	if r.Text != "" {
		out = append(out, strconv.Quote(r.Text))
	}
	for _, x := range r.Items {
		out = append(out, fmt.Sprint(plainLabels(x.Labels), " ", x.Value))
	}
	if len(r.Rows) > 0 {
		out = append(out, rowsText(r.Rows))
	}
	return strings.Join(out, "; ")
}

// plainSeries reads series that are told shortly, each a line: m{a=1} 0:5 10:7 20:end.
func plainSeries(text string) []impl.Series {
	var out []impl.Series
	for line := range strings.SplitSeq(text, ";") {
		words := strings.Fields(line)
		if len(words) == 0 {
			continue
		}
		name, rest, _ := strings.Cut(strings.TrimSuffix(words[0], "}"), "{")
		l := modelLabels{"_name": name}
		for pair := range strings.SplitSeq(rest, ",") {
			key, value, _ := strings.Cut(pair, "=")
			l[key] = value
		}
		s := impl.Series{Labels: l.list()}
		for _, word := range words[1:] {
			time, value, _ := strings.Cut(word, ":")
			x := impl.Sample{Value: math.MinInt}
			x.Time, _ = strconv.Atoi(time)
			if value != "end" {
				x.Value, _ = strconv.Atoi(value)
			}
			s.Samples = append(s.Samples, x)
		}
		out = append(out, s)
	}
	slices.SortFunc(out, func(a, b impl.Series) int { return compareModel(a.Labels, b.Labels) })
	if !goodSeriesModel(out) {
		panic("no good series: " + text)
	}
	return out
}

func plainQuery(text string) []impl.Query {
	r := impl.ReadQuery(text)
	if r.Err != 0 {
		panic(fmt.Sprint("no question: ", text, " ", r.Err, " at ", r.At))
	}
	return r.Node
}

// evalCase is a question at a time, and what it says.
type evalCase struct {
	ask  string
	time int
	want string
}

func checkEvalCases(t *testing.T, list []impl.Series, cases []evalCase) {
	t.Helper()
	for _, c := range cases {
		if got := evalText(checkEval(t, list, plainQuery(c.ask), c.time)); got != c.want {
			t.Errorf("%s at %d says\n%s, not\n%s", c.ask, c.time, got, c.want)
		}
	}
}

// evalAsker makes lists of series and questions that have something to say of each other.
type evalAsker struct {
	asker
}

func newEvalAsker(seed int64) evalAsker {
	return evalAsker{asker{rand.New(rand.NewSource(seed))}}
}

func (a evalAsker) value() int {
	if likely(a.Rand, 12) {
		return oneOf(a.Rand, math.MaxInt, math.MinInt+1, math.MaxInt-1, 1<<40, -1<<40)
	}
	return a.Intn(14) - 4
}

func (a evalAsker) samples() []impl.Sample {
	var out []impl.Sample
	time := a.Intn(60)
	for range 1 + a.Intn(9) {
		v := a.value()
		if likely(a.Rand, 9) {
			v = math.MinInt
		}
		out = append(out, impl.Sample{Time: time, Value: v})
		time += oneOf(a.Rand, 10, 10, 10, 1+a.Intn(30), 1+a.Intn(400))
	}
	return out
}

// series are few, with few names and values, so that keys meet.
func (a evalAsker) list() []impl.Series {
	values := map[string]map[int]int{}
	labels := map[string][]impl.Label{}
	for range 1 + a.Intn(12) {
		l := modelLabels{"_name": oneOf(a.Rand, "m", "m", "n", "h"), "a": oneOf(a.Rand, "", "1", "2"), "b": oneOf(a.Rand, "", "1", "2")}
		if l["_name"] == "h" || likely(a.Rand, 6) {
			l["le"] = oneOf(a.Rand, "1", "5", "10", "inf", "inf", "-3", "05", "x")
		}
		labels[l.text()] = l.list()
		values[l.text()] = map[int]int{}
		for _, s := range a.samples() {
			values[l.text()][s.Time] = s.Value
		}
	}
	return seriesOf(labels, values)
}

func (a evalAsker) names() []string {
	var out []string
	for range a.Intn(3) {
		out = append(out, oneOf(a.Rand, "a", "b", "_name", "le", "c"))
	}
	slices.Sort(out)
	return slices.Compact(out)
}

func (a evalAsker) when(q *impl.Query) {
	if likely(a.Rand, 4) {
		q.Offset = a.Intn(150)
	}
	if likely(a.Rand, 5) {
		q.Fixed, q.At = true, a.Intn(400)
	}
}

func (a evalAsker) selection() []impl.Query {
	q := impl.Query{Kind: impl.QSelect, Text: oneOf(a.Rand, "m", "m", "n", "h", "", "")}
	if q.Text == "" || likely(a.Rand, 4) {
		q.Match = []impl.Matcher{{Name: oneOf(a.Rand, "a", "b"), Op: 1 + a.Intn(4), Value: oneOf(a.Rand, "", "1", "2", "*", "1|2")}}
		if likely(a.Rand, 2) {
			q.Match[0].Op, q.Match[0].Value = impl.MatchLike, "*"
		}
	}
	a.when(&q)
	return queryTree(q)
}

func (a evalAsker) number(deep int) []impl.Query {
	if deep < 2 || likely(a.Rand, 2) {
		return oneOf(a.Rand, askNum(a.Intn(10)), askNum(a.Intn(10)), askNum(oneOf(a.Rand, 500, 1000, math.MaxInt)), askCall("time"))
	}
	deep--
	switch a.Intn(4) {
	case 0:
		return askNeg(a.number(deep))
	case 1:
		return askCall("scalar", a.vector(deep))
	}
	return a.plain(a.number(deep), a.number(deep))
}

func (a evalAsker) span(deep int) []impl.Query {
	if deep < 3 || likely(a.Rand, 2) {
		return askRange(oneOf(a.Rand, 5, 20, 60, 1000), a.selection())
	}
	of := a.vector(deep - 1)
	if likely(a.Rand, 4) {
		of = a.number(deep - 1)
	}
	q := impl.Query{Kind: impl.QSub, Num: 1 + a.Intn(90), Step: 1}
	q.Step += a.Intn(q.Num)
	a.when(&q)
	return queryTree(q, of)
}

func (a evalAsker) op(left []impl.Query, right []impl.Query) []impl.Query {
	q := impl.Query{Kind: impl.QOp, Op: 1 + a.Intn(14), By: oneOf(a.Rand, 0, 1, 1, 2)}
	q.Bool = isWithin(q.Op, 6, 11) && likely(a.Rand, 2)
	if q.By > 0 {
		q.Names = a.names()
	}
	if q.By > 0 && q.Op < 12 {
		q.Side = a.Intn(3)
	}
	if q.Side > 0 {
		q.Extra = a.names()
	}
	return queryTree(q, left, right)
}

func (a evalAsker) agg(deep int) []impl.Query {
	q := impl.Query{Kind: impl.QAgg, Op: 1 + a.Intn(8), By: a.Intn(3)}
	if q.By > 0 {
		q.Names = a.names()
	}
	if q.Op > 5 {
		return queryTree(q, a.number(deep), a.vector(deep))
	}
	return queryTree(q, a.vector(deep))
}

func (a evalAsker) labelText() []impl.Query {
	return askText(oneOf(a.Rand, "a", "a", "b", "c", "_name", "le", "1", "", strings.Repeat("x", 60)))
}

func (a evalAsker) labelCall(of []impl.Query) []impl.Query {
	if likely(a.Rand, 2) {
		pattern := askText(oneOf(a.Rand, "*", "*", "1", "?", "", `\`))
		return askCall("label_set", of, a.labelText(), askText(oneOf(a.Rand, "z", "$1", "$1$1", "", "$")), a.labelText(), pattern)
	}
	kids := [][]impl.Query{of, a.labelText(), askText(oneOf(a.Rand, "", "-", "/", strings.Repeat("-", 70)))}
	for range 1 + a.Intn(3) {
		kids = append(kids, a.labelText())
	}
	return askCall("label_join", kids...)
}

func (a evalAsker) vector(deep int) []impl.Query {
	if deep < 3 || likely(a.Rand, 5) {
		return a.selection()
	}
	deep--
	switch a.Intn(14) {
	case 0:
		return askNeg(a.vector(deep))
	case 1, 2, 3:
		return a.op(a.vector(deep), a.vector(deep))
	case 4:
		return a.filter(a.vector(deep), a.number(deep))
	case 5:
		return a.filter(a.number(deep), a.vector(deep))
	case 6, 7:
		return a.agg(deep)
	case 8:
		return askCall(oneOf(a.Rand, "abs", "absent", "timestamp", "timestamp"), a.vector(deep))
	case 9:
		return oneOf(a.Rand, askCall("clamp", a.vector(deep), a.number(deep), a.number(deep)), askCall("vector", a.number(deep)))
	case 10:
		return askCall("hist_quantile", oneOf(a.Rand, askNum(500), a.number(deep)), oneOf(a.Rand, askSelect("h"), a.vector(deep)))
	case 11:
		return a.labelCall(a.vector(deep))
	}
	over := askCall(oneOf(a.Rand, "rate", "rate", "rise", "delta", "changes", "resets", "sum_over", "min_over", "max_over", "avg_over", "count_over", "last_over", "last_over"), a.span(deep))
	return oneOf(a.Rand, over, over, askCall("predict", a.span(deep), a.number(deep)), askCall("quantile_over", a.number(deep), a.span(deep)))
}

// filter is an operation of a number and items, with or without Bool.
func (a evalAsker) filter(left []impl.Query, right []impl.Query) []impl.Query {
	op := 1 + a.Intn(11)
	return queryTree(impl.Query{Kind: impl.QOp, Op: op, Bool: op > 5 && likely(a.Rand, 2)}, left, right)
}

func (a evalAsker) question() []impl.Query {
	for {
		q := oneOf(a.Rand, a.vector, a.vector, a.vector, a.vector, a.number, a.span)(2 + a.Intn(7))
		if len(q) <= 60 {
			return q
		}
	}
}

// Questions at random: each says what the model does, and all kinds of nodes and of faults are met.
func TestAnswersAtRandom(t *testing.T) {
	a := newEvalAsker(161)
	errs, empty := map[int]int{}, 0
	for range 40000 {
		got := checkEval(t, a.list(), a.question(), a.Intn(700))
		errs[got.Err]++
		if got.Err == 0 && evalText(got) == "" {
			empty++
		}
	}
	for err, least := range map[int]int{0: 10000, impl.ErrTwins: 300, impl.ErrMatches: 300, impl.ErrZero: 100, impl.ErrLabel: 300} {
		if errs[err] < least {
			t.Errorf("Err %d only %d times", err, errs[err])
		}
	}
	if errs[impl.ErrAsked] > 0 || errs[0]-empty < 8000 {
		t.Errorf("%v, %d of them empty", errs, empty)
	}
}

func TestQuotients(t *testing.T) {
	for _, c := range [][3]int{
		{7, 2, 3}, {-7, 2, -4}, {7, -2, -4}, {-7, -2, 3}, {8, 2, 4}, {-8, 2, -4}, {8, -2, -4}, {-8, -2, 4}, {1, 3, 0}, {-1, 3, -1}, {1, -3, -1}, {-1, -3, 0},
		{0, 5, 0}, {0, -5, 0}, {5, 0, 0}, {-5, 0, 0}, {0, 0, 0}, {math.MinInt, 0, 0}, {math.MinInt, -1, math.MinInt}, {math.MinInt, 1, math.MinInt}, {math.MaxInt, -1, -math.MaxInt},
		{math.MinInt, 2, -1 << 62}, {math.MinInt, math.MaxInt, -2}, {math.MaxInt, math.MinInt, -1}, {math.MinInt, math.MinInt, 1}, {1, math.MinInt, -1}, {-1, math.MinInt, 0}, {-1, math.MaxInt, -1},
	} {
		if got := impl.Quotient(c[0], c[1]); got != c[2] || quotientModel(c[0], c[1]) != c[2] {
			t.Errorf("%d by %d: %d, not %d", c[0], c[1], got, c[2])
		}
	}
	r := rand.New(rand.NewSource(162))
	edges := edgeInts()
	for range 50000 {
		a, b := oneOf(r, edges...), oneOf(r, edges...)
		if got := impl.Quotient(a, b); got != quotientModel(a, b) {
			t.Fatalf("%d by %d: %d", a, b, got)
		}
	}
}

func checkQuantile(t *testing.T, values []int, q int) (int, bool) {
	t.Helper()
	arg, kept := guarded(values)
	got, ok := impl.QuantileOf(arg, q)
	if want, wantOk := quantileModel(values, q); got != want || ok != wantOk || !kept() {
		t.Fatalf("%d of %s: %d, %t, not %d, %t", q, shortly(values), got, ok, want, wantOk)
	}
	return got, ok
}

func TestQuantiles(t *testing.T) {
	most, least := math.MaxInt, math.MinInt
	for _, c := range []struct {
		values []int
		q      int
		want   int
	}{
		{[]int{7}, 0, 7}, {[]int{7}, 500, 7}, {[]int{7}, 1000, 7}, {[]int{-7}, 999, -7},
		{[]int{10, 0, 30}, 0, 0}, {[]int{10, 0, 30}, -1, 0}, {[]int{10, 0, 30}, least, 0}, {[]int{10, 0, 30}, 1, 0}, {[]int{10, 0, 30}, 250, 5}, {[]int{10, 0, 30}, 500, 10}, {[]int{10, 0, 30}, 501, 10}, {[]int{10, 0, 30}, 750, 20},
		{[]int{10, 0, 30}, 999, 29}, {[]int{10, 0, 30}, 1000, 30}, {[]int{10, 0, 30}, 1001, 30}, {[]int{10, 0, 30}, most, 30},
		{[]int{5, 5, 5}, 333, 5}, {[]int{5, 1, 5, 1}, 333, 1}, {[]int{5, 1, 5, 1}, 334, 1}, {[]int{5, 1, 5, 1}, 500, 3}, {[]int{5, 1, 5, 1}, 667, 5},
		{[]int{-3, -10}, 500, -7}, {[]int{-1, 0}, 1, -1}, {[]int{-1, 0}, 999, -1}, {[]int{0, 1}, 999, 0},
		// Sums, differences and products wrap: so much lies between the least and the greatest int that it is -1.
		{[]int{most, least}, 0, least}, {[]int{most, least}, 1, most}, {[]int{most, least}, 999, most}, {[]int{most, least}, 1000, most}, {[]int{most, 0}, 500, 0 - 1}, {[]int{most, most}, 500, most}, {[]int{least, least}, 500, least},
	} {
		if got, ok := checkQuantile(t, c.values, c.q); !ok || got != c.want {
			t.Errorf("%d of %v: %d, %t, not %d", c.q, c.values, got, ok, c.want)
		}
	}
	many := make([]int, 2001)
	for i := range many {
		many[i] = (i * 7) % 2001
	}
	for _, q := range []int{-5, 0, 1, 499, 500, 999, 1000, 1001} {
		for _, n := range []int{0, 1, 2, 1999, 2000, 2001} {
			if _, ok := checkQuantile(t, many[:n], q); ok != (n > 0 && n < 2001) {
				t.Errorf("%d of %d values: %t", q, n, ok)
			}
		}
	}
	if _, ok := impl.QuantileOf(make([]int, 1<<16), 500); ok {
		t.Error("very many values")
	}
}

// Promise 16: a quantile lies between the least and the greatest value, and does not fall when more is asked for.
func TestQuantilesLieBetween(t *testing.T) {
	r := rand.New(rand.NewSource(163))
	for range 3000 {
		values := make([]int, 1+r.Intn(30))
		width := oneOf(r, 3, 100, 1<<40, 1<<52)
		for i := range values {
			values[i] = r.Intn(2*width) - width
		}
		if likely(r, 50) {
			values = slices.Repeat(values, 60)
		}
		last := slices.Min(values)
		for q := -3; q <= 1003; q += 1 + r.Intn(40) {
			got, ok := checkQuantile(t, values, q)
			if !ok || got < last || got > slices.Max(values) {
				t.Fatalf("%d of %v: %d behind %d", q, values, got, last)
			}
			last = got
		}
		if got, _ := impl.QuantileOf(values, 1000); got != slices.Max(values) {
			t.Fatalf("all of %v: %d", values, got)
		}
	}
}

// wideQuery is a question of kind vector with so many nodes.
func wideQuery(nodes int) []impl.Query {
	q := askNeg(askSelect("m"))
	if nodes%2 == 1 {
		q = askSelect("m")
	}
	// Each or has one more node to its right; by halves they do not stand too deep.
	list := [][]impl.Query{q}
	for len(q)+2*(len(list)-1) < nodes {
		list = append(list, askSelect("m"))
	}
	for len(list) > 1 {
		var next [][]impl.Query
		for i := 0; i < len(list); i += 2 {
			if i+1 == len(list) {
				next = append(next, list[i])
			} else {
				next = append(next, askOp(impl.OpOr, list[i], list[i+1]))
			}
		}
		list = next
	}
	return list[0]
}

// deepQuery is a question with so many nodes within each other.
func deepQuery(within int) []impl.Query {
	q := askSelect("m")
	for range within - 1 {
		q = askNeg(q)
	}
	return q
}

func TestWhatMayBeAsked(t *testing.T) {
	list, up := plainSeries("m{a=1} 0:5 10:7; n 0:1"), plainQuery("m")
	for i, l := range badSeries() {
		if got := checkEval(t, l, up, 10); got.Err != impl.ErrAsked {
			t.Errorf("list %d: %d", i, got.Err)
		}
		if got := checkEvalRange(t, l, up, 0, 10, 10); got.Err != impl.ErrAsked {
			t.Errorf("list %d, steps: %d", i, got.Err)
		}
	}
	asks := [][]impl.Query{nil, {{}}, up[:0], {{Kind: impl.QSelect}}, {{Kind: impl.QNum, Num: -1}}, {{Kind: 10}}, {{Kind: impl.QNeg, Kids: 1}}, append(slices.Clone(up), up...), askNeg(askText("x")), plainQuery(`sum(m[5])`), plainQuery("m and 1"), plainQuery("1 == 1"), plainQuery(`-"x"`), plainQuery("rate(m)"), plainQuery("m + on(a) 1"), wideQuery(61), wideQuery(100), deepQuery(13)}
	for i, q := range asks {
		if got := checkEval(t, list, q, 10); !same(got, impl.EvalRes{Err: impl.ErrAsked}) {
			t.Errorf("question %d: %+v", i, got)
		}
		if got := checkEvalRange(t, list, q, 0, 10, 10); !same(got, impl.RangeRes{Err: impl.ErrAsked}) {
			t.Errorf("question %d, steps: %+v", i, got)
		}
	}
	for _, time := range []int{-1, maxTime + 1, math.MinInt, math.MaxInt} {
		if got := checkEval(t, list, up, time); got.Err != impl.ErrAsked {
			t.Errorf("at %d: %d", time, got.Err)
		}
	}
	far := []impl.Series{{Labels: list[0].Labels, Samples: []impl.Sample{{Time: 0, Value: 3}, {Time: maxTime, Value: 4}}}}
	for _, n := range []int{1, 2, 59, 60} {
		if got := checkEval(t, list, wideQuery(n), 10); got.Err != 0 || len(got.Items) == 0 || len(wideQuery(n)) != n {
			t.Errorf("%d nodes: %+v", n, got)
		}
	}
	checkEvalCases(t, far, []evalCase{{"m", 0, "m{a=1} 3"}, {"m", maxTime, "m{a=1} 4"}, {"time()", 0, ""}, {"time()", maxTime, "1000000000000"}, {"sum_over(m[1000000000000])", maxTime, "{a=1} 4"}, {"sum_over(m[1000000000000])", maxTime - 1, "{a=1} 3"}})
	if got := checkEval(t, list, deepQuery(12), 10); evalText(got) != "{a=1} -7" {
		t.Errorf("12 within each other: %+v", got)
	}
	if got := checkEval(t, manySeries(200), plainQuery("count({a!=\"x\"})"), 200); evalText(got) != "{} 200" {
		t.Errorf("200 series: %s", evalText(got))
	}
	if got := checkEval(t, []impl.Series{series("m", steadySamples(2000, 0, 1, 3)...)}, plainQuery("sum_over(m[2000])"), 1999); evalText(got) != "{} 6000" {
		t.Errorf("2000 samples: %s", evalText(got))
	}
	if got := checkEval(t, nil, plainQuery("absent(m) + 1"), 0); evalText(got) != "{} 2" {
		t.Errorf("no series: %s", evalText(got))
	}
}

func TestLeavesOfQuestions(t *testing.T) {
	list := plainSeries("m{a=1} 100:5 400:7; m{a=2} 90:8 110:end 500:9; m{b=3} 250:6; n{a=1} 100:1; z 0:4")
	checkEvalCases(t, list, []evalCase{
		{"0", 5, ""}, {"7", 5, "7"}, {"9223372036854775807", 5, "9223372036854775807"}, {`"x y"`, 5, `"x y"`}, {`""`, 5, ""},
		// At a sample, just behind and ahead of it, at Look and one more behind it.
		{"m", 89, ""}, {"m", 90, "m{a=2} 8"}, {"m", 99, "m{a=2} 8"}, {"m", 100, "m{a=1} 5; m{a=2} 8"}, {"m", 109, "m{a=1} 5; m{a=2} 8"}, {"m", 110, "m{a=1} 5"}, {"m", 399, "m{a=1} 5; m{b=3} 6"}, {"m", 400, "m{a=1} 7; m{b=3} 6"}, {"m", 550, "m{a=1} 7; m{a=2} 9; m{b=3} 6"}, {"m", 551, "m{a=1} 7; m{a=2} 9"}, {"m", 700, "m{a=1} 7; m{a=2} 9"}, {"m", 701, "m{a=2} 9"}, {"m", 800, "m{a=2} 9"}, {"m", 801, ""},
		{"z", 300, "z 4"}, {"z", 301, ""}, {"none", 100, ""},
		{`{a="1"}`, 100, "m{a=1} 5; n{a=1} 1"}, {`m{a="1"}`, 100, "m{a=1} 5"}, {`m{a!="1"}`, 100, "m{a=2} 8"}, {`{a=~"?"}`, 100, "m{a=1} 5; m{a=2} 8; n{a=1} 1"}, {`m{a=""}`, 250, "m{b=3} 6"}, {`m{a="1",a="2"}`, 100, ""}, {`m{a!~"1|3"}`, 100, "m{a=2} 8"},
		// Offset, At, and both; the time itself counts for nothing where it is Fixed.
		{"m offset 10", 120, "m{a=1} 5"}, {"m offset 11", 120, "m{a=1} 5; m{a=2} 8"}, {"m offset 120", 120, ""}, {"z offset 120", 120, "z 4"}, {"z offset 121", 120, ""}, {"z offset 1000000000000", 120, ""},
		{"m @ 99", 700, "m{a=2} 8"}, {"m @ 100", 0, "m{a=1} 5; m{a=2} 8"}, {"z @ 0", 700, "z 4"}, {"m offset 10 @ 109", 700, "m{a=2} 8"}, {"m offset 10 @ 110", 3, "m{a=1} 5; m{a=2} 8"}, {"z offset 6 @ 5", 700, ""}, {"z offset 5 @ 5", 700, "z 4"}, {"z @ 1000000000000", 5, ""},
		// What is above the moment less Num and not above it.
		{"m[10]", 100, "m{a=1} 100:5"}, {"m[11]", 100, "m{a=1} 100:5; m{a=2} 90:8"}, {"m[10]", 99, "m{a=2} 90:8"}, {"m[10]", 109, "m{a=1} 100:5"}, {"m[10]", 110, ""}, {"m[11]", 110, "m{a=1} 100:5"}, {"m[21]", 110, "m{a=1} 100:5; m{a=2} 90:8"},
		{"m[400]", 500, "m{a=1} 400:7; m{a=2} 500:9; m{b=3} 250:6"}, {"m[401]", 500, "m{a=1} 100:5 400:7; m{a=2} 500:9; m{b=3} 250:6"}, {"m[1000000000000]", 500, "m{a=1} 100:5 400:7; m{a=2} 90:8 500:9; m{b=3} 250:6"},
		{"z[1]", 0, "z 0:4"}, {"z[1]", 1, ""}, {"z[2]", 1, "z 0:4"}, {"z[5] offset 3", 2, ""}, {"z[5] offset 3", 3, "z 0:4"}, {"z[5] offset 3", 7, "z 0:4"}, {"z[5] offset 3", 8, ""},
		{"m[10] @ 109", 7, "m{a=1} 100:5"}, {"m[10] offset 9 @ 109", 7, "m{a=1} 100:5"}, {"m[10] offset 10 @ 109", 7, "m{a=2} 90:8"}, {`m{a="2"}[1000]`, 120, "m{a=2} 90:8"}, {`{a=~"*"}[20]`, 100, "m{a=1} 100:5; m{a=2} 90:8; n{a=1} 100:1"}, {"none[5]", 5, ""},
	})
	// A series of marks alone, and marks first and last in the span.
	list = plainSeries("m{a=1} 5:end 10:end; m{a=2} 5:end 10:3 15:end")
	checkEvalCases(t, list, []evalCase{{"m", 4, ""}, {"m", 5, ""}, {"m", 10, "m{a=2} 3"}, {"m", 14, "m{a=2} 3"}, {"m", 15, ""}, {"m[100]", 20, "m{a=2} 10:3"}, {"count_over(m[5])", 15, ""}, {"count_over(m[6])", 15, "{a=2} 1"}})
}

func TestQuestionsOverSteps(t *testing.T) {
	list := plainSeries("m{a=1} 0:1 10:2 20:3; m{a=2} 10:5 15:end; n 12:7")
	checkEvalCases(t, list, []evalCase{
		{"m[20:10]", 20, "m{a=1} 10:2 20:3; m{a=2} 10:5"}, {"m[21:10]", 20, "m{a=1} 0:1 10:2 20:3; m{a=2} 10:5"}, {"m[20:10]", 19, "m{a=1} 0:1 10:2; m{a=2} 10:5"}, {"m[10:10]", 19, "m{a=1} 10:2; m{a=2} 10:5"}, {"m[10:10]", 20, "m{a=1} 20:3"}, {"m[10:10]", 9, "m{a=1} 0:1"}, {"m[10:10]", 0, "m{a=1} 0:1"},
		// Steps are multiples, wherever the moment is.
		{"m[10:7]", 20, "m{a=1} 14:2; m{a=2} 14:5"}, {"m[14:7]", 20, "m{a=1} 7:1 14:2; m{a=2} 14:5"}, {"m[14:7]", 21, "m{a=1} 14:2 21:3; m{a=2} 14:5"}, {"m[3:3]", 2, "m{a=1} 0:1"}, {"m[1:1]", 13, "m{a=1} 13:2; m{a=2} 13:5"},
		{"m[20:10] offset 5", 20, "m{a=1} 0:1 10:2; m{a=2} 10:5"}, {"m[20:10] @ 10", 700, "m{a=1} 0:1 10:2; m{a=2} 10:5"}, {"m[20:10] offset 5 @ 10", 700, "m{a=1} 0:1"}, {"m[20:10] offset 21", 20, ""}, {"m[20:10] offset 20", 20, "m{a=1} 0:1"}, {"5[20:10] offset 21", 20, ""}, {"5[20:10] offset 20", 20, "{} 0:5"},
		// The kid is asked at each step, and may look elsewhere from there.
		{"(m offset 10)[20:10]", 20, "m{a=1} 10:1 20:2; m{a=2} 20:5"}, {"(m @ 10)[20:10]", 20, "m{a=1} 10:2 20:2; m{a=2} 10:5 20:5"}, {"time()[20:10]", 20, "{} 10:10 20:20"}, {"7[25:10]", 30, "{} 10:7 20:7 30:7"}, {"(-m)[20:10]", 20, "{a=1} 10:-2 20:-3; {a=2} 10:-5"},
		{"sum(m)[21:10]", 20, "{} 0:1 10:7 20:3"}, {"timestamp(m)[20:10]", 20, "{a=1} 10:10 20:20; {a=2} 10:10"}, {"absent(m{a=\"2\"})[21:10]", 20, "{} 0:1 20:1"}, {"none[20:10]", 20, ""}, {"sum_over(m[20:10])[20:10]", 30, "{a=1} 20:5 30:6; {a=2} 20:5"},
		// What a step says ends it all.
		{"(1 / (time() - 10))[21:10]", 20, "err 5"}, {"(1 / (time() - 10))[10:10]", 20, "{} 20:0"}, {"(1 / (time() - 0))[10:10]", 5, "err 5"},
		{"(n or m)[10:2]", 14, "m{a=1} 6:1 8:1 10:2 12:2 14:2; m{a=2} 10:5 12:5 14:5; n 12:7 14:7"},
	})
	// Just so many steps, and one more.
	for _, c := range []struct {
		num, step, offset, time int
		err                     bool
	}{
		{1000, 1, 0, 5000, false}, {1001, 1, 0, 5000, true}, {1001, 1, 0, 999, false}, {1001, 1, 0, 1000, true}, {2000, 2, 0, 5000, false}, {2001, 2, 0, 5000, true}, {2001, 2, 0, 5001, false}, {2002, 2, 0, 5001, true}, {maxTime, 1, 0, 999, false}, {maxTime, 1, 0, 1000, true},
		{maxTime, 1, 1, 1000, false}, {maxTime, 1, 1000, 500, false}, {maxTime, 1, maxTime, 500, false}, {maxTime, 1000000000, 0, 999999999999, false}, {maxTime, 1000000000, 0, maxTime, false}, {maxTime, 999999999, 0, maxTime, false}, {maxTime, 999000000, 0, maxTime, true}, {maxTime, maxTime, 0, maxTime, false},
	} {
		for _, kid := range []string{"5", "m"} {
			q := asked(askSub(c.num, c.step, plainQuery(kid)), func(x *impl.Query) { x.Offset = c.offset })
			got := checkEval(t, list, q, c.time)
			if (got.Err == impl.ErrSubs) != c.err || got.Err != 0 && got.Err != impl.ErrSubs {
				t.Errorf("%s[%d:%d] offset %d at %d: Err %d", kid, c.num, c.step, c.offset, c.time, got.Err)
			}
		}
	}
	// Nothing of the kid is asked where there are too many steps.
	checkEvalCases(t, list, []evalCase{{"sum_over((1 / 0)[1001:1])", 5000, "err 7"}, {"sum_over((1 / 0)[1000:1])", 5000, "err 5"}, {"sum_over((1 / 0)[10:1] offset 11)", 10, ""}, {"sum_over((m[1001:1] or m)[10:1])", 5000, "err 1"}, {"sum_over(sum_over(m[1001:1])[5000:1])", 5000, "err 7"}})
}

func TestNegatives(t *testing.T) {
	list := plainSeries("m{a=1} 0:5; m{a=2} 0:-7; m{b=1} 0:0; n{a=1} 0:9; A{x=1} 0:3; z 0:-9223372036854775807")
	checkEvalCases(t, list, []evalCase{
		{"-5", 0, "-5"}, {"--5", 0, "5"}, {"-0", 0, ""}, {"-(0 - 9223372036854775807 - 1)", 0, "-9223372036854775808"}, {"-m", 0, "{a=1} -5; {a=2} 7; {b=1} 0"}, {"--m", 0, "{a=1} 5; {a=2} -7; {b=1} 0"}, {"-none", 0, ""}, {"-z", 0, "{} 9223372036854775807"}, {"-(z - 1)", 0, "{} -9223372036854775808"},
		// Without their names two are called the same.
		{`-{a="1"}`, 0, "err 3"}, {`-{a="2"}`, 0, "{a=2} 7"}, {"-sum(m)", 0, "{} 2"}, {"-A", 0, "{x=1} -3"},
	})
}

// What operations do with two numbers, with a number and items in either order, with and without Bool.
func TestOperationsOfNumbersAndItems(t *testing.T) {
	list := plainSeries("m{a=1} 0:7; m{a=2} 0:-7; m{a=3} 0:0; n{a=1} 0:2")
	numbers := map[string][4]string{
		// What 7, -7 and 2, -2 make: 7 2, -7 2, 7 -2, -7 -2.
		"+": {"9", "-5", "5", "-9"}, "-": {"5", "-9", "9", "-5"}, "*": {"14", "-14", "-14", "14"}, "/": {"3", "-4", "-4", "3"}, "%": {"1", "1", "-1", "-1"},
		"== bool": {"", "", "", ""}, "!= bool": {"1", "1", "1", "1"}, "> bool": {"1", "", "1", ""}, "< bool": {"", "1", "", "1"}, ">= bool": {"1", "", "1", ""}, "<= bool": {"", "1", "", "1"},
	}
	for sign, wants := range numbers {
		for i, pair := range []string{"7 %s 2", "-7 %s 2", "7 %s -2", "-7 %s -2"} {
			checkEvalCases(t, list, []evalCase{{fmt.Sprintf(pair, sign), 0, wants[i]}})
		}
	}
	checkEvalCases(t, list, []evalCase{
		{"2 == bool 2", 0, "1"}, {"2 != bool 2", 0, ""}, {"2 >= bool 2", 0, "1"}, {"2 <= bool 2", 0, "1"}, {"2 > bool 2", 0, ""}, {"2 < bool 2", 0, ""},
		{"5 / 0", 0, "err 5"}, {"5 % 0", 0, "err 5"}, {"0 / 0", 0, "err 5"}, {"0 / 5", 0, ""}, {"5 * 0", 0, ""}, {"1 / (1 - 1)", 0, "err 5"}, {"9223372036854775807 + 1", 0, "-9223372036854775808"}, {"-9223372036854775807 - 2", 0, "9223372036854775807"}, {"9223372036854775807 * 2", 0, "-2"}, {"(-9223372036854775807 - 1) / -1", 0, "-9223372036854775808"}, {"(-9223372036854775807 - 1) % -1", 0, ""},
		{"m + 1", 0, "{a=1} 8; {a=2} -6; {a=3} 1"}, {"1 + m", 0, "{a=1} 8; {a=2} -6; {a=3} 1"}, {"m - 1", 0, "{a=1} 6; {a=2} -8; {a=3} -1"}, {"1 - m", 0, "{a=1} -6; {a=2} 8; {a=3} 1"}, {"m * 3", 0, "{a=1} 21; {a=2} -21; {a=3} 0"}, {"3 * m", 0, "{a=1} 21; {a=2} -21; {a=3} 0"},
		{"m / 2", 0, "{a=1} 3; {a=2} -4; {a=3} 0"}, {"2 / m", 0, "{a=1} 0; {a=2} -1"}, {"m % 2", 0, "{a=1} 1; {a=2} 1; {a=3} 0"}, {"2 % m", 0, "{a=1} 2; {a=2} -5"}, {"m / 0", 0, ""}, {"m % 0", 0, ""}, {"0 / m", 0, "{a=1} 0; {a=2} 0"},
		{"m == 7", 0, "m{a=1} 7"}, {"7 == m", 0, "m{a=1} 7"}, {"m != 7", 0, "m{a=2} -7; m{a=3} 0"}, {"m > 0", 0, "m{a=1} 7"}, {"0 > m", 0, "m{a=2} -7"}, {"m < 0", 0, "m{a=2} -7"}, {"0 < m", 0, "m{a=1} 7"}, {"m >= 0", 0, "m{a=1} 7; m{a=3} 0"}, {"0 >= m", 0, "m{a=2} -7; m{a=3} 0"}, {"m <= 0", 0, "m{a=2} -7; m{a=3} 0"}, {"m > 100", 0, ""},
		{"m == bool 7", 0, "{a=1} 1; {a=2} 0; {a=3} 0"}, {"7 == bool m", 0, "{a=1} 1; {a=2} 0; {a=3} 0"}, {"m != bool 7", 0, "{a=1} 0; {a=2} 1; {a=3} 1"}, {"m > bool 0", 0, "{a=1} 1; {a=2} 0; {a=3} 0"}, {"0 > bool m", 0, "{a=1} 0; {a=2} 1; {a=3} 0"}, {"m < bool 0", 0, "{a=1} 0; {a=2} 1; {a=3} 0"}, {"m >= bool 0", 0, "{a=1} 1; {a=2} 0; {a=3} 1"}, {"0 <= bool m", 0, "{a=1} 1; {a=2} 0; {a=3} 1"},
		// Items that would be twins: where they come out, and with the names that they have then.
		{`{a="1"} + 1`, 0, "err 3"}, {`1 + {a="1"}`, 0, "err 3"}, {`{a="1"} > bool 1`, 0, "err 3"}, {`{a="1"} > 1`, 0, "m{a=1} 7; n{a=1} 2"}, {`{a="1"} / 0`, 0, ""}, {`1 / ({a="1"} - 2)`, 0, "err 3"}, {"none + 1", 0, ""}, {"none > 1", 0, ""}, {"1 / none", 0, ""},
		{`1 / ({a="1"} > 2)`, 0, "{a=1} 0"}, {`{a=~"1|3"} % 5`, 0, "err 3"},
	})
	list = plainSeries("m{a=1} 0:0; n{a=1} 0:5; n{a=2} 0:0")
	checkEvalCases(t, list, []evalCase{{`10 / {a="1"}`, 0, "{a=1} 2"}, {`10 % {a="1"}`, 0, "{a=1} 0"}, {`10 / {a=~"*"}`, 0, "{a=1} 2"}})
}

func TestOperationsOfVectors(t *testing.T) {
	list := plainSeries("m{a=1,b=1} 0:10; m{a=1,b=2} 0:20; m{a=2,b=1} 0:30; n{a=1,b=1} 0:3; n{a=1,b=2} 0:20; n{a=3,b=1} 0:0; o{a=1} 0:4; o{a=2} 0:0; p{a=1,c=x} 0:6; p{a=2} 0:7; q 0:5")
	checkEvalCases(t, list, []evalCase{
		// ByNone: the keys are the bare labels.
		{"m + n", 0, "{a=1,b=1} 13; {a=1,b=2} 40"}, {"m - n", 0, "{a=1,b=1} 7; {a=1,b=2} 0"}, {"m * n", 0, "{a=1,b=1} 30; {a=1,b=2} 400"}, {"m / n", 0, "{a=1,b=1} 3; {a=1,b=2} 1"}, {"m % n", 0, "{a=1,b=1} 1; {a=1,b=2} 0"}, {"n / (m - 10)", 0, "{a=1,b=2} 2"}, {"m + none", 0, ""}, {"none + m", 0, ""}, {"m + o", 0, ""}, {"m + m", 0, "{a=1,b=1} 20; {a=1,b=2} 40; {a=2,b=1} 60"},
		{"m == n", 0, "m{a=1,b=2} 20"}, {"m != n", 0, "m{a=1,b=1} 10"}, {"m > n", 0, "m{a=1,b=1} 10"}, {"n < m", 0, "n{a=1,b=1} 3"}, {"m >= n", 0, "m{a=1,b=1} 10; m{a=1,b=2} 20"}, {"m <= n", 0, "m{a=1,b=2} 20"}, {"m < n", 0, ""},
		{"m == bool n", 0, "{a=1,b=1} 0; {a=1,b=2} 1"}, {"m > bool n", 0, "{a=1,b=1} 1; {a=1,b=2} 0"}, {"m <= bool n", 0, "{a=1,b=1} 0; {a=1,b=2} 1"},
		{"m + ignoring() n", 0, "{a=1,b=1} 13; {a=1,b=2} 40"}, {"m + ignoring(_name) n", 0, "{a=1,b=1} 13; {a=1,b=2} 40"}, {"m == ignoring(_name) n", 0, "m{a=1,b=2} 20"},
		// ByOn and ByWithout: what comes out has the key, and a comparison the left item's labels.
		{"m{b=\"1\"} + on(a) n{b=\"1\"}", 0, "{a=1} 13"}, {"m{b=\"1\"} > on(a) n{b=\"1\"}", 0, "m{a=1,b=1} 10"}, {"m{b=\"1\"} > bool on(a) n{b=\"1\"}", 0, "{a=1} 1"}, {"m{b=\"1\"} - ignoring(b) o", 0, "{a=1} 6; {a=2} 30"}, {"m{b=\"1\"} / ignoring(b) o", 0, "{a=1} 2"}, {"m{b=\"1\"} > ignoring(b) o", 0, "m{a=1,b=1} 10; m{a=2,b=1} 30"}, {"o + ignoring(c) p", 0, "{a=1} 10; {a=2} 7"}, {"o + on(a) p", 0, "{a=1} 10; {a=2} 7"}, {"o + on(a, c) p", 0, "{a=2} 7"}, {"o + on(z) q", 0, "err 4"}, {"q + on(z) q", 0, "{} 10"}, {"q + on() q", 0, "{} 10"},
		// With the name in the key: it counts, and stays.
		{"m + on(_name, a, b) m", 0, "m{a=1,b=1} 20; m{a=1,b=2} 40; m{a=2,b=1} 60"}, {"m + on(_name, a, b) n", 0, ""}, {"q + on(_name) q", 0, "q 10"}, {"q == on(_name) q", 0, "q 5"}, {"q == bool on(_name) q", 0, "q 1"}, {"-q + on(_name) q", 0, ""}, {"-q + on(_name) -q", 0, "{} -10"}, {"m{a=\"2\"} + on(_name) m{a=\"2\"}", 0, "m 60"},
		// Sets.
		{"m and n", 0, "m{a=1,b=1} 10; m{a=1,b=2} 20"}, {"m unless n", 0, "m{a=2,b=1} 30"}, {"m or n", 0, "m{a=1,b=1} 10; m{a=1,b=2} 20; m{a=2,b=1} 30; n{a=3,b=1} 0"}, {"n or m", 0, "m{a=2,b=1} 30; n{a=1,b=1} 3; n{a=1,b=2} 20; n{a=3,b=1} 0"},
		{"m and on(a) o", 0, "m{a=1,b=1} 10; m{a=1,b=2} 20; m{a=2,b=1} 30"}, {"m and on(a) n", 0, "m{a=1,b=1} 10; m{a=1,b=2} 20"}, {"m unless on(a) n", 0, "m{a=2,b=1} 30"}, {"m or on(a) n", 0, "m{a=1,b=1} 10; m{a=1,b=2} 20; m{a=2,b=1} 30; n{a=3,b=1} 0"}, {"m or on(b) n", 0, "m{a=1,b=1} 10; m{a=1,b=2} 20; m{a=2,b=1} 30"}, {"m unless on(b) n{b=\"2\"}", 0, "m{a=1,b=1} 10; m{a=2,b=1} 30"}, {"m and ignoring(a) n{b=\"2\"}", 0, "m{a=1,b=2} 20"}, {"m and on() q", 0, "m{a=1,b=1} 10; m{a=1,b=2} 20; m{a=2,b=1} 30"}, {"m unless on() q", 0, ""}, {"m or on() q", 0, "m{a=1,b=1} 10; m{a=1,b=2} 20; m{a=2,b=1} 30"}, {"none or on() q", 0, "q 5"}, {"m and on() none", 0, ""}, {"m unless none", 0, "m{a=1,b=1} 10; m{a=1,b=2} 20; m{a=2,b=1} 30"}, {"none and m", 0, ""}, {"none or none", 0, ""},
		{"m and on(_name) n", 0, ""}, {"m unless on(_name) n", 0, "m{a=1,b=1} 10; m{a=1,b=2} 20; m{a=2,b=1} 30"}, {"q or on(_name) -q", 0, "{} -5; q 5"}, {"q or -q", 0, "q 5"}, {"m and ignoring(_name) n", 0, "m{a=1,b=1} 10; m{a=1,b=2} 20"}, {"{a=\"1\"} and on(b) m{a=\"2\"}", 0, "m{a=1,b=1} 10; n{a=1,b=1} 3"},
	})
}

func TestOperationsOfOneAndMany(t *testing.T) {
	list := plainSeries("m{a=1,b=1} 0:10; m{a=1,b=2} 0:20; m{a=2,b=1} 0:30; o{a=1,c=x} 0:4; o{a=2} 0:0; p{a=1,b=9} 0:3; q{c=y} 0:5")
	checkEvalCases(t, list, []evalCase{
		{"m + on(a) group_left() o", 0, "{a=1,b=1} 14; {a=1,b=2} 24; {a=2,b=1} 30"}, {"o + on(a) group_right() m", 0, "{a=1,b=1} 14; {a=1,b=2} 24; {a=2,b=1} 30"}, {"m / on(a) group_left() o", 0, "{a=1,b=1} 2; {a=1,b=2} 5"}, {"o - on(a) group_right() m", 0, "{a=1,b=1} -6; {a=1,b=2} -16; {a=2,b=1} -30"}, {"m + ignoring(b, c) group_left() o", 0, "{a=1,b=1} 14; {a=1,b=2} 24; {a=2,b=1} 30"}, {"o + ignoring(b, c) group_right() m", 0, "{a=1,b=1} 14; {a=1,b=2} 24; {a=2,b=1} 30"}, {"m + on() group_left() q", 0, "{a=1,b=1} 15; {a=1,b=2} 25; {a=2,b=1} 35"},
		// Extra: a name that the other item has, that it has not, that both have, and the name itself.
		{"m + on(a) group_left(c) o", 0, "{a=1,b=1,c=x} 14; {a=1,b=2,c=x} 24; {a=2,b=1} 30"}, {"o + on(a) group_right(c) m", 0, "{a=1,b=1,c=x} 14; {a=1,b=2,c=x} 24; {a=2,b=1} 30"}, {"m + on(a) group_left(z) o", 0, "{a=1,b=1} 14; {a=1,b=2} 24; {a=2,b=1} 30"}, {"m{b=\"1\"} + on(a) group_left(b) o", 0, "{a=1} 14; {a=2} 30"}, {"m{b=\"1\"} + on(a) group_left(b) p", 0, "{a=1,b=9} 13"}, {"m + on() group_left(a, c) q", 0, "err 3"}, {"m{a=\"1\"} + on() group_left(a, c) q", 0, "{b=1,c=y} 15; {b=2,c=y} 25"}, {"m + on(a) group_left(_name) o", 0, "o{a=1,b=1} 14; o{a=1,b=2} 24; o{a=2,b=1} 30"}, {"o + on(a) group_right(_name, c) m", 0, "o{a=1,b=1,c=x} 14; o{a=1,b=2,c=x} 24; o{a=2,b=1} 30"}, {"m + on(a) group_left(_name) (o + 0)", 0, "{a=1,b=1} 14; {a=1,b=2} 24; {a=2,b=1} 30"}, {"m + on(a) group_left(a) o", 0, "{a=1,b=1} 14; {a=1,b=2} 24; {a=2,b=1} 30"},
		// Comparisons: the left Value, and the name of the item whose labels they are.
		{"m > on(a) group_left() o", 0, "m{a=1,b=1} 10; m{a=1,b=2} 20; m{a=2,b=1} 30"}, {"m > on(a) group_left(c) o", 0, "m{a=1,b=1,c=x} 10; m{a=1,b=2,c=x} 20; m{a=2,b=1} 30"}, {"o < on(a) group_right() m", 0, "m{a=1,b=1} 4; m{a=1,b=2} 4; m{a=2,b=1} 0"}, {"o < on(a) group_right(c) m", 0, "m{a=1,b=1,c=x} 4; m{a=1,b=2,c=x} 4; m{a=2,b=1} 0"}, {"m > bool on(a) group_left(c) o", 0, "{a=1,b=1,c=x} 1; {a=1,b=2,c=x} 1; {a=2,b=1} 1"}, {"o < bool on(a) group_right() m", 0, "{a=1,b=1} 1; {a=1,b=2} 1; {a=2,b=1} 1"}, {"(m * 3) > on(a) group_left() o", 0, "{a=1,b=1} 30; {a=1,b=2} 60; {a=2,b=1} 90"}, {"m > on(a) group_left(_name) o", 0, "m{a=1,b=1} 10; m{a=1,b=2} 20; m{a=2,b=1} 30"}, {"-m < on(a) group_left(_name) o", 0, "o{a=1,b=1} -10; o{a=1,b=2} -20; o{a=2,b=1} -30"}, {"m == on(a) group_left() o", 0, ""}, {"m > on(a) group_left() p", 0, "m{a=1,b=1} 10; m{a=1,b=2} 20"}, {"o < on(a) group_right(_name) m", 0, "m{a=1,b=1} 4; m{a=1,b=2} 4; m{a=2,b=1} 0"},
		// Two at a side that may have one alone, of a key of both sides.
		{"m + on(a) o", 0, "err 4"}, {"o + on(a) m", 0, "err 4"}, {"m + on(a) group_right() o", 0, "err 4"}, {"o + on(a) group_left() m", 0, "err 4"}, {"m + on(b) group_left() m", 0, "err 4"}, {"m + on(b) group_right() m", 0, "err 4"}, {"m + on(z) group_left() o", 0, "err 4"}, {"m == on(a) o", 0, "err 4"}, {"m == on(a) group_right() o", 0, "err 4"}, {"o == bool on(a) m", 0, "err 4"}, {"m / on(a) (o * 0)", 0, "err 4"}, {"(o * 0) / on(a) m", 0, "err 4"},
		{"m + on(a) p{a=\"3\"}", 0, ""}, {"m + on(a) o{a=\"2\"}", 0, "{a=2} 30"}, {"o{a=\"2\"} + on(a) m", 0, "{a=2} 30"}, {"m + on(a) o{a=\"1\"}", 0, "err 4"}, {"m{a=\"1\"} + on(a) o{a=\"2\"}", 0, ""}, {"{a=\"1\",b=\"1\"} + p", 0, ""}, {"{b!=\"7\"} + {b!=\"7\"}", 0, "{a=1,b=1} 20; {a=1,b=2} 40; {a=1,b=9} 6; {a=1,c=x} 8; {a=2} 0; {a=2,b=1} 60; {c=y} 10"}, {"{a=~\"*\"} + on(a, b) o", 0, "{a=1} 8; {a=2} 0"}, {"{a=~\"*\"} + on(a) group_left() o", 0, "{a=1,b=1} 14; {a=1,b=2} 24; {a=1,b=9} 7; {a=1,c=x} 8; {a=2} 0; {a=2,b=1} 30"},
	})
	// Items with one name fewer: twins.
	list = plainSeries("m{a=1} 0:1; n{a=1} 0:2; n{a=2} 0:3; o{a=1} 0:9; o{a=2} 0:9")
	checkEvalCases(t, list, []evalCase{
		{`{a="1"} + on(a) o`, 0, "err 4"}, {"{a!=\"3\"} + on(a) group_left() o", 0, "err 3"}, {"{a!=\"3\"} > on(a) group_left() o", 0, ""}, {"{a!=\"3\"} < on(a) group_left() o", 0, "m{a=1} 1; n{a=1} 2; n{a=2} 3"}, {"{a!=\"3\"} < bool on(a) group_left() o", 0, "err 3"}, {"{a!=\"3\"} == bool on(_name) group_left() o{a=\"1\"}", 0, "{a=1} 1; {a=2} 1"}, {"n + on() group_left(a) m", 0, "err 3"}, {"n > on() group_left(a) m", 0, "err 3"}, {"n > on() group_left(a) (m + 1)", 0, "n{a=1} 3"}, {"m + on() group_right(a) n", 0, "err 3"}, {"n + on(a) group_left() {a!=\"2\"}", 0, "err 4"}, {"(n - 2) / on() group_left(a) (m - 1)", 0, ""}, {"m / on() group_right(a) (n - 2)", 0, "{a=1} 1"},
	})
}

// labelled is a series with so many labels beside its name.
func labelled(name string, n int, more ...string) impl.Series {
	l := toModel(append(manyLabels(n), labelsOf(more...)...))
	l["_name"] = name
	return impl.Series{Labels: l.list(), Samples: []impl.Sample{{Time: 0, Value: len(name)}}}
}

func seriesList(list ...impl.Series) []impl.Series {
	slices.SortFunc(list, func(a, b impl.Series) int { return compareModel(a.Labels, b.Labels) })
	return list
}

// Operations whose items have just as many labels as may be, and one more; and which Err comes first.
func TestOperationsWithManyLabels(t *testing.T) {
	list := seriesList(labelled("m", 19), labelled("k", 18), labelled("o", 0, "x", "1", "y", "2"), labelled("p", 0, "x", "1"), labelled("q", 0, "n100", "other"))
	for _, c := range []struct {
		ask  string
		many int
	}{
		{"k + on() group_left(x) o", 19}, {"k + on() group_left(x, y) o", 20}, {"m + on() group_left(x) o", 20}, {"m + on() group_left(x, y) o", -6}, {"m + on() group_left(x, y) p", 20}, {"o + on() group_right(x, y) m", -6}, {"m + on() group_left(n100, x, y) o", 20}, {"m + on() group_left(n100, n101, x, y) o", 19}, {"m + on() group_left(n100, x) q", 19}, {"m + on() group_left(_name, x) o", -6}, {"k + on() group_left(_name, x) o", 20}, {"k + on() group_left(_name, x, y) o", -6},
		// A comparison has the name, too.
		{"m >= on() group_left() o", 20}, {"m >= on() group_left(x) o", -6}, {"k >= on() group_left(x) o", 20}, {"k >= on() group_left(x, y) o", -6}, {"k >= bool on() group_left(x, y) o", 20}, {"m > on() group_left(x) o", 0}, {"m > on() group_left(x, y) o", 0}, {"m / on() group_left(x, y) (o - 1)", 0}, {"o <= on() group_right(x) m", -6}, {"m >= on() group_left(_name) o", 20}, {"k >= on() group_left(_name, x) o", 20},
	} {
		got := checkEval(t, list, plainQuery(c.ask), 0)
		many := -got.Err
		if len(got.Items) > 0 {
			many = len(got.Items[0].Labels)
		}
		if many != c.many {
			t.Errorf("%s: %d labels, not %d", c.ask, many, c.many)
		}
	}
	// Items are made in the order of the left ones: what is found first counts; keys are looked at ahead of all.
	full := modelLabels{}
	for _, x := range manyLabels(18) {
		full[x.Name] = x.Value
	}
	with := func(name string, pairs ...string) impl.Series {
		l := maps.Clone(full)
		maps.Copy(l, toModel(labelsOf(pairs...)))
		l["_name"] = name
		return impl.Series{Labels: l.list(), Samples: []impl.Sample{{Time: 0, Value: 1}}}
	}
	a, b := labelled("a", 0, "z", "1"), labelled("b", 0, "z", "1")
	one, two := labelled("one", 0, "x", "1", "y", "2"), labelled("two", 0, "x", "1", "y", "2")
	for i, c := range []struct {
		list []impl.Series
		ask  string
		want int
	}{
		// a and b are twins; c, behind them, has too many labels; and the other way round.
		{seriesList(a, b, with("c", "z", "1"), one), `{z="1"} + on() group_left(x, y) one`, impl.ErrTwins},
		{seriesList(with("a", "z", "1"), b, labelled("c", 0, "z", "1"), one), `{z="1"} + on() group_left(x, y) one`, impl.ErrLabel},
		{seriesList(a, with("b", "z", "1"), labelled("c", 0, "z", "1"), one), `{z="1"} + on() group_left(x, y) one`, impl.ErrLabel},
		{seriesList(a, b, with("c", "z", "1"), one, two), `{z="1"} + on() group_left(x, y) {x="1"}`, impl.ErrMatches},
		{seriesList(with("a", "z", "1"), b, one, two), `{z="1"} + on() group_left(x, y) {x="1"}`, impl.ErrMatches},
		{seriesList(with("a", "z", "1"), labelled("b", 0, "z", "2"), labelled("one", 0, "x", "1", "y", "2", "z", "1"), labelled("one", 0, "x", "1", "y", "3", "z", "2"), labelled("one", 0, "x", "1", "y", "4", "z", "2")), `{z=~"*",x=""} + on(z) group_left(x, y) one`, impl.ErrMatches},
		{seriesList(a, b, labelled("c", 0, "z", "2"), labelled("one", 0, "z", "1"), labelled("one", 0, "q", "1", "z", "2"), labelled("one", 0, "q", "2", "z", "2")), `{z=~"?",q=""} + on(z) group_left() one`, impl.ErrMatches},
	} {
		if got := checkEval(t, c.list, plainQuery(c.ask), 0); got.Err != c.want {
			t.Errorf("case %d: Err %d, not %d", i, got.Err, c.want)
		}
	}
}

func TestAggregates(t *testing.T) {
	list := plainSeries("m{a=1,b=1} 0:10; m{a=1,b=2} 0:-5; m{a=2,b=1} 0:10; m{b=3} 0:4; n{a=1,b=1} 0:7; z{a=9} 0:9223372036854775807; z{a=8} 0:9223372036854775807")
	checkEvalCases(t, list, []evalCase{
		{"sum(m)", 0, "{} 19"}, {"min(m)", 0, "{} -5"}, {"max(m)", 0, "{} 10"}, {"avg(m)", 0, "{} 4"}, {"avg(-m)", 0, "{} -5"}, {"count(m)", 0, "{} 4"}, {"quantile(500, m)", 0, "{} 7"}, {"quantile(0, m)", 0, "{} -5"}, {"quantile(1000, m)", 0, "{} 10"}, {"quantile(-1, m)", 0, "{} -5"}, {"quantile(1001, m)", 0, "{} 10"}, {"sum(z)", 0, "{} -2"}, {"avg(z)", 0, "{} -1"},
		{"sum by (a)(m)", 0, "{} 4; {a=1} 5; {a=2} 10"}, {"min by (a)(m)", 0, "{} 4; {a=1} -5; {a=2} 10"}, {"max by (a)(m)", 0, "{} 4; {a=1} 10; {a=2} 10"}, {"avg by (a)(m)", 0, "{} 4; {a=1} 2; {a=2} 10"}, {"count by (a)(m)", 0, "{} 1; {a=1} 2; {a=2} 1"}, {"quantile by (a)(500, m)", 0, "{} 4; {a=1} 2; {a=2} 10"}, {"sum by ()(m)", 0, "{} 19"}, {"sum by (z)(m)", 0, "{} 19"}, {"sum by (a, b)(m)", 0, "{a=1,b=1} 10; {a=1,b=2} -5; {a=2,b=1} 10; {b=3} 4"},
		{"sum without (a)(m)", 0, "{b=1} 20; {b=2} -5; {b=3} 4"}, {"min without (a)(m)", 0, "{b=1} 10; {b=2} -5; {b=3} 4"}, {"count without (b)(m)", 0, "{} 1; {a=1} 2; {a=2} 1"}, {"sum without ()(m)", 0, "{a=1,b=1} 10; {a=1,b=2} -5; {a=2,b=1} 10; {b=3} 4"}, {"sum without (a, b)(m)", 0, "{} 19"}, {"avg without (a)(m)", 0, "{b=1} 10; {b=2} -5; {b=3} 4"}, {"max without (b)(m)", 0, "{} 4; {a=1} 10; {a=2} 10"}, {"quantile without (b)(1000, m)", 0, "{} 4; {a=1} 10; {a=2} 10"},
		// The name counts only where it is asked for.
		{`sum by (_name)({b=~"*",b!=""})`, 0, "m 19; n 7"}, {`sum by (_name, a)({b=~"?"})`, 0, "m 4; m{a=1} 5; m{a=2} 10; n{a=1} 7"}, {`sum without ()({b="1"})`, 0, "{a=1,b=1} 17; {a=2,b=1} 10"}, {`sum without (_name)({b="1"})`, 0, "{a=1,b=1} 17; {a=2,b=1} 10"}, {`count by (a)({b="1"})`, 0, "{a=1} 2; {a=2} 1"},
		{"sum(none)", 0, ""}, {"count(none)", 0, ""}, {"avg by (a)(none)", 0, ""}, {"topk(3, none)", 0, ""}, {"quantile(500, none)", 0, ""}, {"min without (a)(none)", 0, ""},
		// So many as the number says: of Values alike those with the lesser labels.
		{"topk(1, m)", 0, "m{a=1,b=1} 10"}, {"topk(2, m)", 0, "m{a=1,b=1} 10; m{a=2,b=1} 10"}, {"topk(3, m)", 0, "m{a=1,b=1} 10; m{a=2,b=1} 10; m{b=3} 4"}, {"topk(4, m)", 0, "m{a=1,b=1} 10; m{a=1,b=2} -5; m{a=2,b=1} 10; m{b=3} 4"}, {"topk(5, m)", 0, "m{a=1,b=1} 10; m{a=1,b=2} -5; m{a=2,b=1} 10; m{b=3} 4"}, {"topk(9223372036854775807, m)", 0, "m{a=1,b=1} 10; m{a=1,b=2} -5; m{a=2,b=1} 10; m{b=3} 4"}, {"topk(0, m)", 0, ""}, {"topk(-1, m)", 0, ""}, {"topk(-9223372036854775807 - 1, m)", 0, ""},
		{"bottomk(1, m)", 0, "m{a=1,b=2} -5"}, {"bottomk(2, m)", 0, "m{a=1,b=2} -5; m{b=3} 4"}, {"bottomk(3, m)", 0, "m{a=1,b=1} 10; m{a=1,b=2} -5; m{b=3} 4"}, {"bottomk(9, m)", 0, "m{a=1,b=1} 10; m{a=1,b=2} -5; m{a=2,b=1} 10; m{b=3} 4"}, {"bottomk(0, m)", 0, ""}, {"bottomk(-7, m)", 0, ""},
		{"topk by (a)(1, m)", 0, "m{a=1,b=1} 10; m{a=2,b=1} 10; m{b=3} 4"}, {"bottomk by (a)(1, m)", 0, "m{a=1,b=2} -5; m{a=2,b=1} 10; m{b=3} 4"}, {"topk without (a)(1, m)", 0, "m{a=1,b=1} 10; m{a=1,b=2} -5; m{b=3} 4"}, {"topk without (b)(1, m)", 0, "m{a=1,b=1} 10; m{a=2,b=1} 10; m{b=3} 4"}, {`topk by (_name)(1, {b="1"})`, 0, "m{a=1,b=1} 10; n{a=1,b=1} 7"}, {"topk(1, -m)", 0, "{a=1,b=2} 5"}, {"topk(scalar(n) - 5, m)", 0, "m{a=1,b=1} 10; m{a=2,b=1} 10"}, {"topk(1, z)", 0, "z{a=8} 9223372036854775807"},
		// The number is asked ahead of the items.
		{`topk(1 / 0, -{b="1"})`, 0, "err 5"}, {`topk(1, -{b="1"})`, 0, "err 3"}, {"sum(sum by (a)(m))", 0, "{} 19"}, {"count(topk(2, m))", 0, "{} 2"},
	})
	// The greatest and the least int stand where they are.
	list = plainSeries("m{a=1} 0:9223372036854775807; m{a=2} 0:-9223372036854775807; m{a=3} 0:0")
	checkEvalCases(t, list, []evalCase{{"topk(1, m)", 0, "m{a=1} 9223372036854775807"}, {"bottomk(1, m)", 0, "m{a=2} -9223372036854775807"}, {"max(m - 1)", 0, "{} 9223372036854775806"}, {"min(m - 1)", 0, "{} -9223372036854775808"}, {"topk(3, m - 1)", 0, "{a=1} 9223372036854775806; {a=2} -9223372036854775808; {a=3} -1"}, {"bottomk(1, m - 1)", 0, "{a=2} -9223372036854775808"}})
}

// A quantile of as many items as there may be, and of more.
func TestQuantilesOfManyItems(t *testing.T) {
	var list []impl.Series
	for i := range 200 {
		l := toModel(manyLabels(12))
		l["_name"], l["i"] = "m", strconv.Itoa(1000+i)
		list = append(list, impl.Series{Labels: l.list(), Samples: []impl.Sample{{Time: 0, Value: i}}})
	}
	// Each part is all items without one label, so that none is called like another.
	part := func(i int) []impl.Query {
		return asked(askOp(impl.OpAdd, askSelect("m"), askCall("vector", askNum(0))), func(x *impl.Query) {
			x.By, x.Side, x.Extra = impl.ByOn, impl.SideLeft, []string{"n" + strconv.Itoa(100+i)}
		})
	}
	var parts [][]impl.Query
	for i := range 11 {
		parts = append(parts, part(i))
	}
	all := func(parts [][]impl.Query) []impl.Query {
		for len(parts) > 1 {
			parts = append(parts[2:], askOp(impl.OpOr, parts[0], parts[1]))
		}
		return parts[0]
	}
	for n, want := range map[int]string{1: "{} 199", 9: "{} 199", 10: "{} 199", 11: "{} 0"} {
		q := all(slices.Clone(parts[:n]))
		if got := evalText(checkEval(t, list, askAgg(impl.AggCount, q), 0)); got != fmt.Sprint("{} ", 200*n) {
			t.Fatalf("%d parts: %s", n, got)
		}
		if got := evalText(checkEval(t, list, askAgg(impl.AggQuantile, askNum(1000), q), 0)); got != want {
			t.Errorf("%d parts: %s, not %s", n, got, want)
		}
	}
	// More items than there may be series are no histogram.
	hist := askAgg(impl.AggCount, askCall("hist_quantile", askNum(500), all(slices.Clone(parts[:2]))))
	if got := evalText(checkEval(t, list, hist, 0)); got != "" {
		t.Error(got)
	}
}

func TestFunctionsOfRanges(t *testing.T) {
	list := plainSeries("m{a=1} 10:5 20:8 30:8 40:2 50:6; m{a=2} 50:7; m{a=3} 30:4 45:4; n{a=1} 10:-3 20:-7 30:end 40:1; z 40:9223372036854775807 50:1")
	checkEvalCases(t, list, []evalCase{
		{"sum_over(m[50])", 50, "{a=1} 29; {a=2} 7; {a=3} 8"}, {"sum_over(m[40])", 50, "{a=1} 24; {a=2} 7; {a=3} 8"}, {"min_over(m[50])", 50, "{a=1} 2; {a=2} 7; {a=3} 4"}, {"max_over(m[50])", 50, "{a=1} 8; {a=2} 7; {a=3} 4"}, {"avg_over(m[50])", 50, "{a=1} 5; {a=2} 7; {a=3} 4"}, {"count_over(m[50])", 50, "{a=1} 5; {a=2} 1; {a=3} 2"}, {"last_over(m[50])", 50, "m{a=1} 6; m{a=2} 7; m{a=3} 4"}, {"rise(m[50])", 50, "{a=1} 9; {a=2} 0; {a=3} 0"}, {"delta(m[50])", 50, "{a=1} 1; {a=2} 0; {a=3} 0"}, {"changes(m[50])", 50, "{a=1} 3; {a=2} 0; {a=3} 0"}, {"resets(m[50])", 50, "{a=1} 1; {a=2} 0; {a=3} 0"},
		{"sum_over(n[50])", 50, "{a=1} -9"}, {"avg_over(n[50])", 50, "{a=1} -3"}, {"avg_over(n[30])", 30, "{a=1} -5"}, {"count_over(n[50])", 50, "{a=1} 3"}, {"last_over(n[50])", 35, "n{a=1} -7"}, {"rise(n[50])", 50, "{a=1} 1"}, {"delta(n[50])", 50, "{a=1} 4"}, {"delta(n[20])", 20, "{a=1} -4"}, {"changes(n[50])", 50, "{a=1} 2"}, {"resets(n[50])", 50, "{a=1} 1"}, {"sum_over(z[50])", 50, "{} -9223372036854775808"}, {"rise(z[50])", 50, "{} 1"},
		{"sum_over(none[50])", 50, ""}, {"last_over(none[50])", 50, ""}, {"rise(m[5])", 9, ""}, {"rate(none[50])", 50, ""}, {"predict(none[50], 5)", 50, ""}, {"quantile_over(500, none[50])", 50, ""}, {"changes(none[5])", 50, ""}, {"delta(none[5])", 50, ""}, {"resets(none[5])", 50, ""},
		{"quantile_over(0, m[50])", 50, "{a=1} 2; {a=2} 7; {a=3} 4"}, {"quantile_over(500, m[50])", 50, "{a=1} 6; {a=2} 7; {a=3} 4"}, {"quantile_over(300, m[50])", 50, "{a=1} 5; {a=2} 7; {a=3} 4"}, {"quantile_over(1000, m[50])", 50, "{a=1} 8; {a=2} 7; {a=3} 4"}, {"quantile_over(1500, m[50])", 50, "{a=1} 8; {a=2} 7; {a=3} 4"}, {"quantile_over(-5, m[50])", 50, "{a=1} 2; {a=2} 7; {a=3} 4"}, {"quantile_over(1 / 0, m[50])", 50, "err 5"},
		// All but last_over have bare labels.
		{`last_over({a="1"}[50])`, 50, "m{a=1} 6; n{a=1} 1"}, {`sum_over({a="1"}[50])`, 50, "err 3"}, {`count_over({a="1"}[50])`, 50, "err 3"}, {`rate({a="1"}[50])`, 50, "err 3"}, {`rate({a="1"}[20])`, 50, "{a=1} 400"}, {`delta({a="1"}[9])`, 50, "{a=1} 0"}, {`predict({a="1"}[50], 0)`, 50, "err 3"}, {`quantile_over(1, {a="1"}[50])`, 50, "err 3"}, {`changes({a="1"}[50])`, 50, "err 3"},
		// Of steps, and of numbers.
		{"sum_over(m[20:10])", 50, "{a=1} 8; {a=2} 7; {a=3} 8"}, {"rise(m[50:10])", 50, "{a=1} 9; {a=2} 0; {a=3} 0"}, {"last_over(m[20:10])", 50, "m{a=1} 6; m{a=2} 7; m{a=3} 4"}, {"sum_over(time()[30:10])", 50, "{} 120"}, {"last_over(5[30:10])", 50, "{} 5"}, {"delta(time()[30:10])", 50, "{} 20"}, {"rate(time()[30:10])", 50, "{} 1000"}, {"max_over((m * 2)[50:10])", 50, "{a=1} 16; {a=2} 14; {a=3} 8"},
	})
}

// What a step says may be the very value that marks an end: it counts for nothing there.
func TestFunctionsOfMarksInSteps(t *testing.T) {
	list := plainSeries("m{a=1} 0:-9223372036854775807 10:5; m{a=2} 0:-9223372036854775807")
	checkEvalCases(t, list, []evalCase{
		{"(m - 1)[20:10]", 10, "{a=1} 0:-9223372036854775808 10:4; {a=2} 0:-9223372036854775808 10:-9223372036854775808"},
		{"sum_over((m - 1)[20:10])", 10, "{a=1} 4"}, {"count_over((m - 1)[20:10])", 10, "{a=1} 1"}, {"last_over((m - 1)[20:10])", 10, "{a=1} 4"}, {"delta((m - 1)[20:10])", 10, "{a=1} -9223372036854775804; {a=2} 0"}, {"changes((m - 1)[20:10])", 10, "{a=1} 1; {a=2} 0"}, {"quantile_over(0, (m - 1)[20:10])", 10, "{a=1} -9223372036854775808; {a=2} -9223372036854775808"},
	})
}

func TestRates(t *testing.T) {
	checkEvalCases(t, plainSeries("m 100:5"), []evalCase{{"rate(m[100])", 100, ""}, {"rate(m[1])", 100, ""}})
	// Samples 10 apart that rise by 5: what lies at their sides counts as far as ten times it is at most eleven times 10, otherwise 5 do.
	list := plainSeries("m 100:0 110:5 120:10")
	checkEvalCases(t, list, []evalCase{
		// 10 lie ahead of them: 10 (20 + 10) / 20 = 15, times 1000, by 30.
		{"rate(m[30])", 120, "{} 500"},
		// 11 do: 10 (20 + 11) / 20 = 15, rounded down; 12 do: 10 (20 + 5) / 20 = 12.
		{"rate(m[31])", 120, "{} 483"}, {"rate(m[32])", 120, "{} 375"},
		// 11 and 12 lie behind them, 9 and 10 ahead: 10 (20 + 9 + 11) / 20 = 20, and 10 (20 + 10 + 5) / 20 = 17.
		{"rate(m[40])", 131, "{} 500"}, {"rate(m[42])", 132, "{} 404"},
		// Both are too wide: 10 (20 + 5 + 5) / 20 = 15.
		{"rate(m[100])", 150, "{} 150"}, {"rate(m[1000])", 150, "{} 15"}, {"rate(m[1000000000000])", 150, "{} 0"},
		// Two samples alone: 5 (10 + 10) / 10, 5 (10 + 1) / 10 and 5 (10 + 1 + 9) / 10.
		{"rate(m[20])", 120, "{} 500"}, {"rate(m[11])", 120, "{} 454"}, {"rate(m[20])", 119, "{} 500"}, {"rate(m[10])", 120, ""},
		{"rate(m[30] offset 30)", 150, "{} 500"}, {"rate(m[31] offset 7 @ 127)", 5, "{} 483"},
	})
	// One begins anew at 30, and rises by 4, then by 3; values below 0 fall without end.
	checkEvalCases(t, plainSeries("m{a=1} 10:6 20:10 30:3; m{a=2} 10:0 20:0 30:0; m{a=3} 10:-1 20:-2 30:-3; m{a=4} 10:1 11:2 30:5"), []evalCase{
		{"rate(m[30])", 30, "{a=1} 333; {a=2} 0; {a=3} -267; {a=4} 200"}, {"rate(m[25])", 35, "{a=1} 280; {a=2} 0; {a=3} -320; {a=4} 120"},
	})
	// Samples that are not as far apart: g is 3, rounded down, and half of it 1.
	checkEvalCases(t, plainSeries("m 100:0 103:7 107:9"), []evalCase{{"rate(m[10])", 107, "{} 1200"}, {"rate(m[11])", 107, "{} 909"}, {"rate(m[100])", 150, "{} 110"}, {"rate(m[12])", 108, "{} 916"}})
	// Of steps the moment and the Num are those of the QSub.
	checkEvalCases(t, list, []evalCase{{"rate(m[30:10])", 120, "{} 500"}, {"rate(m[31:10])", 129, "{} 483"}, {"rate(m[30:10] offset 9)", 129, "{} 500"}, {"rate(m[30:10] @ 120)", 0, "{} 500"}, {"rate((m offset 10)[30:10])", 130, "{} 500"}})
}

func TestPredictions(t *testing.T) {
	checkEvalCases(t, plainSeries("m{a=1} 0:0 10:20 20:40; m{a=2} 10:7 20:7; m{a=3} 20:5; m{a=4} 0:0 10:1 20:0; m{a=5} 0:9 20:-4"), []evalCase{
		{"predict(m[30], 0)", 20, "{a=1} 40; {a=2} 7; {a=4} 0; {a=5} -4"}, {"predict(m[30], 10)", 20, "{a=1} 60; {a=2} 7; {a=4} 0; {a=5} -11"}, {"predict(m[30], -20)", 20, "{a=1} 0; {a=2} 7; {a=4} 0; {a=5} 9"}, {"predict(m[30], 5)", 25, "{a=1} 60; {a=2} 7; {a=4} 0; {a=5} -11"}, {"predict(m[30], 0)", 9, ""}, {"predict(m[30], 0)", 10, "{a=1} 20; {a=4} 1"}, {"predict(m[30], 1 / 0)", 20, "err 5"}, {"predict(m[30] offset 5, 0)", 25, "{a=1} 40; {a=2} 7; {a=4} 0; {a=5} -4"},
		{"predict(time()[30:10], 7)", 40, "{} 47"}, {"predict(time()[30:10] offset 3, 7)", 40, "{} 44"}, {"predict(time()[10:10], 7)", 40, ""},
	})
	// Times so far apart that n D wraps to 0 or below: the item is there, and says 0.
	for _, c := range []struct {
		last int
		want string
	}{
		{1 << 10, "{} 1"}, {1 << 30, "{} 1"}, {1 << 31, "{} 0"}, {3000000000, "{} 0"}, {1 << 32, "{} 0"}, {1 << 33, "{} 0"}, {maxTime, ""},
	} {
		list := []impl.Series{series("m", impl.Sample{Time: 0, Value: 0}, impl.Sample{Time: c.last, Value: 1})}
		if got := evalText(checkEval(t, list, plainQuery("predict(m[1000000000000], 0)"), c.last)); got != c.want {
			t.Errorf("%+v: %s", c, got)
		}
		for n := 1; n < maxTime; n *= 7 {
			checkEval(t, list, askCall("predict", askRange(maxTime, askSelect("m")), askNum(n)), c.last-1)
			checkEval(t, list, askCall("predict", askRange(maxTime, askSelect("m")), askNum(n)), min(c.last+n, maxTime-1))
		}
	}
}

func TestFunctionsOfItems(t *testing.T) {
	list := plainSeries("m{a=1} 10:5 40:-8; m{a=2} 20:3; n{a=1} 30:-2; z 40:-9223372036854775807")
	checkEvalCases(t, list, []evalCase{
		{"abs(m)", 40, "{a=1} 8; {a=2} 3"}, {"abs(m)", 39, "{a=1} 5; {a=2} 3"}, {"abs(z)", 40, "{} 9223372036854775807"}, {"abs(z - 1)", 40, "{} -9223372036854775808"}, {"abs(none)", 40, ""}, {`abs({a="1"})`, 40, "err 3"}, {"abs(m - 3)", 40, "{a=1} 11; {a=2} 0"},
		{"clamp(m, -5, 2)", 40, "{a=1} -5; {a=2} 2"}, {"clamp(m, -8, 3)", 40, "{a=1} -8; {a=2} 3"}, {"clamp(m, -100, 100)", 40, "{a=1} -8; {a=2} 3"}, {"clamp(m, 4, 4)", 40, "{a=1} 4; {a=2} 4"}, {"clamp(m, 5, 4)", 40, ""}, {`clamp({a="1"}, 5, 4)`, 40, ""}, {`clamp({a="1"}, 4, 4)`, 40, "err 3"}, {"clamp(none, 1, 2)", 40, ""}, {"clamp(m, scalar(n), time())", 40, "{a=1} -2; {a=2} 3"}, {`clamp(-{a="1"}, 1 / 0, 2)`, 40, "err 3"}, {"clamp(m, 1 / 0, 2)", 40, "err 5"}, {"clamp(m, 1, 2 % 0)", 40, "err 5"},
		// Of a QSelect the sample's own Time, whatever is asked; of all else the time.
		{"timestamp(m)", 39, "{a=1} 10; {a=2} 20"}, {"timestamp(m)", 40, "{a=1} 40; {a=2} 20"}, {"timestamp(m offset 5)", 44, "{a=1} 10; {a=2} 20"}, {"timestamp(m @ 40)", 700, "{a=1} 40; {a=2} 20"}, {"timestamp((m))", 39, "{a=1} 10; {a=2} 20"}, {"timestamp(-m)", 39, "{a=1} 39; {a=2} 39"}, {"timestamp(m > 0)", 39, "{a=1} 39; {a=2} 39"}, {"timestamp(m or m)", 39, "{a=1} 39; {a=2} 39"}, {"timestamp(m and m)", 39, "{a=1} 39; {a=2} 39"}, {"timestamp(topk(1, m))", 39, "{a=1} 39"}, {"timestamp(last_over(m[100]))", 39, "{a=1} 39; {a=2} 39"}, {"timestamp(timestamp(m))", 39, "{a=1} 39; {a=2} 39"}, {"timestamp(vector(5))", 39, "{} 39"}, {"timestamp(none)", 39, ""}, {`timestamp({a="1"})`, 40, "err 3"}, {`timestamp(label_set(m, "b", "x", "a", "*"))`, 39, "{a=1,b=x} 39; {a=2,b=x} 39"},
		{"absent(none)", 40, "{} 1"}, {"absent(m)", 40, ""}, {"absent(m)", 9, "{} 1"}, {`absent(m{a="7"})`, 40, "{} 1"}, {"absent(sum(none))", 40, "{} 1"}, {"absent(absent(m))", 40, "{} 1"}, {"absent(absent(none))", 40, ""},
		{"vector(5)", 40, "{} 5"}, {"vector(time())", 40, "{} 40"}, {"vector(0)", 40, "{} 0"}, {"vector(1 / 0)", 40, "err 5"},
		{"scalar(n)", 40, "-2"}, {"scalar(m)", 40, ""}, {"scalar(none)", 40, ""}, {`scalar(m{a="2"})`, 40, "3"}, {"scalar(vector(7))", 40, "7"}, {"scalar(sum(m))", 40, "-5"},
		{"time()", 40, "40"}, {"time() - 40", 40, ""}, {"-time()", 7, "-7"},
	})
}

func TestFunctionsOfLabels(t *testing.T) {
	long := strings.Repeat("x", 60)
	list := seriesList(plainSeries("m{a=1} 0:5; m{a=22,b=y} 0:6; n{a=1} 0:7; k{v=" + long + "} 0:1")...)
	checkEvalCases(t, list, []evalCase{
		// All labels stay, the name too.
		{`label_set(m, "c", "z", "a", "*")`, 0, "m{a=1,c=z} 5; m{a=22,b=y,c=z} 6"}, {`label_set(m, "c", "<$1>", "a", "*")`, 0, "m{a=1,c=<1>} 5; m{a=22,b=y,c=<22>} 6"}, {`label_set(m, "c", "z", "a", "?")`, 0, "m{a=1,c=z} 5; m{a=22,b=y} 6"}, {`label_set(m, "a", "z$1", "a", "2*")`, 0, "m{a=1} 5; m{a=z2,b=y} 6"}, {`label_set(m, "b", "", "a", "*")`, 0, "m{a=1} 5; m{a=22} 6"}, {`label_set(m, "b", "$1", "b", "*")`, 0, "m{a=1} 5; m{a=22,b=y} 6"}, {`label_set(m, "c", "$1", "b", "*")`, 0, "m{a=1} 5; m{a=22,b=y,c=y} 6"}, {`label_set(m, "c", "none", "b", "")`, 0, "m{a=1,c=none} 5; m{a=22,b=y} 6"}, {`label_set(m, "_name", "o", "a", "*")`, 0, "o{a=1} 5; o{a=22,b=y} 6"}, {`label_set(m, "_name", "", "a", "*")`, 0, "{a=1} 5; {a=22,b=y} 6"}, {`label_set(m, "c", "$1", "_name", "*")`, 0, "m{a=1,c=m} 5; m{a=22,b=y,c=m} 6"}, {`label_set(m, "c", "$$", "a", "*")`, 0, "m{a=1,c=$} 5; m{a=22,b=y,c=$} 6"}, {`label_set(vector(3), "c", "z", "a", "*")`, 0, "{c=z} 3"}, {`label_set(vector(3), "c", "z", "a", "?")`, 0, "{} 3"}, {`label_set(vector(3), "c", "$1", "a", "*")`, 0, "{} 3"}, {`label_set(none, "c", "z", "a", "*")`, 0, ""},
		// The rule is not good: found first, also without items, but behind what the kids say.
		{`label_set(m, "1", "z", "a", "*")`, 0, "err 6"}, {`label_set(none, "1", "z", "a", "*")`, 0, "err 6"}, {`label_set(none, "", "z", "a", "*")`, 0, "err 6"}, {`label_set(none, "c", "$", "a", "*")`, 0, "err 6"}, {`label_set(none, "c", "$0", "a", "*")`, 0, "err 6"}, {`label_set(none, "c", "z", "", "*")`, 0, "err 6"}, {`label_set(none, "c", "z", "a-b", "*")`, 0, "err 6"}, {`label_set(none, "c", "z", "a", "\\")`, 0, "err 6"}, {`label_set(none, "c", "z", "a", "\\a")`, 0, "err 6"}, {`label_set(vector(1 / 0), "1", "z", "a", "*")`, 0, "err 5"}, {`label_set(-{a="1"}, "1", "z", "a", "*")`, 0, "err 3"},
		// What comes out.
		{`label_set(k, "w", "$1", "v", "*")`, 0, "k{v=" + long + ",w=" + long + "} 1"}, {`label_set(k, "w", "$1$1", "v", "*")`, 0, "err 6"}, {`label_set(k, "w", "$1` + strings.Repeat("y", 40) + `", "v", "*")`, 0, "k{v=" + long + ",w=" + long + strings.Repeat("y", 40) + "} 1"}, {`label_set(k, "w", "$1` + strings.Repeat("y", 41) + `", "v", "*")`, 0, "err 6"},
		{`label_set({a="1"}, "_name", "o", "a", "*")`, 0, "err 3"}, {`label_set({a="1"}, "_name", "", "a", "*")`, 0, "err 3"}, {`label_set(m, "a", "", "b", "")`, 0, "m 5; m{a=22,b=y} 6"}, {`label_set(label_set(m, "b", "", "a", "*"), "a", "z", "a", "*")`, 0, "err 3"}, {`label_set({a="1"}, "_name", "o", "_name", "m")`, 0, "n{a=1} 7; o{a=1} 5"}, {`label_set({a="1"}, "_name", "n", "_name", "m")`, 0, "err 3"},

		{`label_join(m, "c", "-", "a")`, 0, "m{a=1,c=1} 5; m{a=22,b=y,c=22} 6"}, {`label_join(m, "c", "-", "a", "b")`, 0, "m{a=1,c=1-} 5; m{a=22,b=y,c=22-y} 6"}, {`label_join(m, "c", "", "a", "b", "_name")`, 0, "m{a=1,c=1m} 5; m{a=22,b=y,c=22ym} 6"}, {`label_join(m, "c", "-", "q")`, 0, "m{a=1} 5; m{a=22,b=y} 6"}, {`label_join(m, "c", "-", "q", "q")`, 0, "m{a=1,c=-} 5; m{a=22,b=y,c=-} 6"}, {`label_join(m, "b", "-", "q")`, 0, "m{a=1} 5; m{a=22} 6"}, {`label_join(m, "a", "-", "a", "a")`, 0, "m{a=1-1} 5; m{a=22-22,b=y} 6"}, {`label_join(m, "_name", "", "a")`, 0, "1{a=1} 5; 22{a=22,b=y} 6"}, {`label_join(m, "_name", "", "q")`, 0, "{a=1} 5; {a=22,b=y} 6"}, {`label_join(vector(3), "c", "x", "a", "b")`, 0, "{c=x} 3"}, {`label_join(none, "c", "x", "a", "b")`, 0, ""}, {`label_join(m, "c", ", ", "a", "b", "a", "b", "a", "b", "a")`, 0, "m{a=1,c=1, , 1, , 1, , 1} 5; m{a=22,b=y,c=22, y, 22, y, 22, y, 22} 6"},
		{`label_join(m, "1", "-", "a")`, 0, "err 6"}, {`label_join(none, "", "-", "a")`, 0, "err 6"}, {`label_join(none, "c", "-", "")`, 0, "err 6"}, {`label_join(none, "c", "-", "a", "b", "c d")`, 0, "err 6"}, {`label_join(none, "c", "-", "a", "1", "b")`, 0, "err 6"}, {`label_join(-{a="1"}, "", "-", "a")`, 0, "err 3"}, {`label_join(vector(1 % 0), "", "-", "a")`, 0, "err 5"},
		{`label_join(k, "w", "` + strings.Repeat("y", 40) + `", "v", "q")`, 0, "k{v=" + long + ",w=" + long + strings.Repeat("y", 40) + "} 1"}, {`label_join(k, "w", "` + strings.Repeat("y", 41) + `", "v", "q")`, 0, "err 6"}, {`label_join(k, "w", "", "v", "v")`, 0, "err 6"}, {`label_join({a="1"}, "_name", "-", "a")`, 0, "err 3"}, {`label_join({a="1"}, "_name", "-", "q")`, 0, "err 3"},
	})
	// Just as many labels as may be, and one more.
	for n, want := range map[int]int{18: 0, 19: impl.ErrLabel} {
		list := []impl.Series{labelled("m", n)}
		for _, ask := range []string{`label_set(m, "z", "1", "n100", "*")`, `label_join(m, "z", "-", "n100")`} {
			got := checkEval(t, list, plainQuery(ask), 0)
			if got.Err != want || want == 0 && len(got.Items[0].Labels) != 20 {
				t.Errorf("%s of %d labels: %+v", ask, n+1, got)
			}
		}
		if got := checkEval(t, list, plainQuery(`label_set(-m, "z", "1", "n100", "*")`), 0); got.Err != 0 || len(got.Items[0].Labels) != n+1 {
			t.Errorf("%d labels without a name: %+v", n, got)
		}
		if got := checkEval(t, list, plainQuery(`label_set(m, "n100", "other", "n101", "*")`), 0); got.Err != 0 {
			t.Errorf("one of %d labels: %+v", n+1, got)
		}
	}
	// Item by item: the first that is a twin of one ahead, or whose labels are not good, counts.
	plain, far := func(name string) impl.Series { return labelled(name, 0, "t", "1") }, func(name string) impl.Series { return labelled(name, 0, "t", "1", "u", long) }
	other := func(name string) impl.Series { return labelled(name, 0, "t", "1", "u", "2") }
	for i, c := range []struct {
		list []impl.Series
		want int
	}{
		{seriesList(plain("a"), plain("b"), far("c")), impl.ErrTwins}, {seriesList(far("a"), plain("b"), plain("c")), impl.ErrLabel}, {seriesList(plain("a"), far("b"), plain("c")), impl.ErrLabel}, {seriesList(plain("a"), far("b")), impl.ErrLabel}, {seriesList(plain("a"), plain("b")), impl.ErrTwins}, {seriesList(other("a"), plain("b"), other("c"), far("d")), impl.ErrTwins}, {seriesList(other("a"), plain("b"), far("c"), other("d")), impl.ErrLabel}, {seriesList(plain("a"), other("b")), 0},
	} {
		for _, ask := range []string{`label_set({t="1"}, "_name", "$1$1", "u", "*")`, `label_join({t="1"}, "_name", "", "u", "u")`} {
			if got := checkEval(t, c.list, plainQuery(ask), 0); got.Err != c.want {
				t.Errorf("case %d, %s: Err %d, not %d", i, ask, got.Err, c.want)
			}
		}
	}
}

func checkHist(t *testing.T, items []impl.Item, q int) []impl.Item {
	t.Helper()
	arg, kept := guarded(items)
	got, want := impl.HistQuantile(arg, q), histModel(items, q)
	if !same(got, want) || !kept() {
		t.Fatalf("%d of %s: %s, not %s", q, shortly(items), shortly(got), shortly(want))
	}
	checkOwn(t, got, arg)
	return got
}

// bucketItems are the buckets of one histogram: 5:2 is one with le 5 and Value 2; behind a / stands the name.
func bucketItems(text string) []impl.Item {
	var out []impl.Item
	for _, word := range strings.Fields(text) {
		word, name, _ := strings.Cut(word, "/")
		at := strings.LastIndex(word, ":")
		value, _ := strconv.Atoi(word[at+1:])
		out = append(out, impl.Item{Labels: modelLabels{"_name": name, "le": word[:at]}.list(), Value: value})
	}
	slices.SortFunc(out, func(a, b impl.Item) int { return compareModel(a.Labels, b.Labels) })
	return out
}

func TestQuantilesOfHistograms(t *testing.T) {
	for _, c := range []struct {
		items string
		q     int
		want  string
	}{
		{"10:4 20:8 inf:10", 500, "12"}, {"10:4 20:8 inf:10", 400, "10"}, {"10:4 20:8 inf:10", 401, "10"}, {"10:4 20:8 inf:10", 425, "10"}, {"10:4 20:8 inf:10", 440, "11"}, {"10:4 20:8 inf:10", 200, "5"}, {"10:4 20:8 inf:10", 100, "2"}, {"10:4 20:8 inf:10", 800, "20"}, {"10:4 20:8 inf:10", 801, "20"}, {"10:4 20:8 inf:10", 1000, "20"}, {"10:4 20:8 inf:10", 2000, "20"}, {"10:4 20:8 inf:10", 0, "0"}, {"10:4 20:8 inf:10", -7, "0"}, {"10:4 20:10 inf:10", 1000, "20"}, {"10:4 20:10 inf:10", 999, "19"},
		// By le as numbers: 9 stands ahead of 10, -5 ahead of all.
		{"9:4 10:8 inf:8", 750, "9"}, {"9:4 100:8 inf:8", 750, "54"}, {"-5:2 5:4 inf:4", 500, "-5"}, {"-5:2 5:4 inf:4", 499, "-5"}, {"-5:2 5:4 inf:4", 0, "-5"}, {"-5:2 5:4 inf:4", 750, "0"}, {"-5:2 5:4 inf:4", 501, "-5"}, {"-10:2 -5:4 inf:4", 750, "-8"}, {"0:2 10:4 inf:4", 300, "0"}, {"1:2 10:4 inf:4", 300, "0"}, {"1:2 10:4 inf:4", 500, "1"}, {"-1:2 inf:4", 300, "-1"},
		// inf alone, several of them, or none.
		{"inf:10", 500, ""}, {"inf:10/a inf:20/b", 500, ""}, {"10:4 20:8", 500, ""}, {"10:4 inf:4", 500, "5"}, {"10:4 inf:2/a inf:4/b", 500, "5"}, {"10:4 inf:4/a inf:2/b", 500, "2"}, {"10:4 inf:100/a inf:0/b", 500, ""}, {"10:4 inf:0/a inf:100/b", 500, "10"}, {"", 500, ""},
		// C 0 and below.
		{"10:4 inf:0", 500, ""}, {"10:4 inf:-1", 500, ""}, {"10:4 inf:1", 500, "1"}, {"10:-4 inf:-1", 0, ""},
		// What is no whole number in digits is left out.
		{"010:1 10:4 20:8 inf:10", 500, "12"}, {"+10:1 10:4 20:8 inf:10", 500, "12"}, {"x:1 10:4 20:8 inf:10", 500, "12"}, {"1.5:1 10:4 20:8 inf:10", 500, "12"}, {"9223372036854775808:9 10:4 20:8 inf:10", 850, "20"}, {"9223372036854775807:9 10:4 20:8 inf:10", 500, "12"}, {"Inf:9 10:4 20:8", 500, ""}, {"+inf:9 10:4", 500, ""}, {"-0:9 10:4 inf:4", 500, "5"}, {"010:4 inf:4", 500, ""}, {"-9223372036854775808:2 inf:4", 500, "-9223372036854775808"}, {"-9223372036854775809:2 inf:4", 500, ""},
		// Several with one le, in their order.
		{"10:2/a 10:6/b 20:8/a inf:8/a", 500, "10"}, {"10:6/a 10:2/b 20:8/a inf:8/a", 500, "6"}, {"10:2/a 10:6/b 20:8/a inf:8/a", 800, "12"}, {"10:6/a 10:2/b 20:8/a inf:8/a", 800, "17"}, {"10:2/a 10:2/b inf:8/a", 800, "10"},
		// Values that fall, or stay.
		{"10:5 20:3 30:8 inf:10", 600, "26"}, {"10:5 20:5 30:8 inf:10", 500, "10"}, {"10:5 20:5 30:8 inf:10", 600, "23"}, {"10:0 20:0 inf:10", 0, "10"}, {"10:0 20:5 inf:10", 0, "10"}, {"10:-1 20:5 inf:10", 0, "11"}, {"10:-5 20:-5 inf:10", 0, "20"}, {"10:8 20:4 inf:2", 1000, "2"}, {"10:1 20:8 inf:2", 1000, "11"},
		// Above all buckets: the last number.
		{"10:1 inf:10", 500, "10"}, {"-10:1 inf:10", 500, "-10"}, {"10:1 20:1 inf:10", 999, "20"},
	} {
		items := bucketItems(c.items)
		got := checkHist(t, items, c.q)
		text := ""
		if len(got) == 1 {
			text = fmt.Sprint(got[0].Value)
		}
		if text != c.want || len(got) > 1 || len(got) == 1 && len(got[0].Labels) > 0 {
			t.Errorf("%d of %s: %v, not %q", c.q, c.items, got, c.want)
		}
	}
}

func TestHistogramsInGroups(t *testing.T) {
	list := plainSeries("h_bucket{a=1,le=10} 0:4; h_bucket{a=1,le=20} 0:8; h_bucket{a=1,le=inf} 0:10; h_bucket{a=2,le=10} 0:1; h_bucket{a=2,le=inf} 0:1; h_bucket{a=3,le=10} 0:1; h_bucket{a=4,le=inf} 0:1; h_bucket{a=5} 0:7; h_sum{a=1} 0:99; g_bucket{a=1,le=15} 0:5; g_bucket{b=1,le=5} 0:1; g_bucket{b=1,le=inf} 0:2")
	checkEvalCases(t, list, []evalCase{
		{"hist_quantile(500, h_bucket)", 0, "{a=1} 12; {a=2} 5"}, {"hist_quantile(1000, h_bucket)", 0, "{a=1} 20; {a=2} 10"}, {"hist_quantile(-1, h_bucket)", 0, "{a=1} 0; {a=2} 0"}, {"hist_quantile(500, none)", 0, ""}, {"hist_quantile(500, h_sum)", 0, ""}, {"hist_quantile(1 / 0, h_bucket)", 0, "err 5"}, {"hist_quantile(500, sum by (le)(h_bucket))", 0, "{} 10"}, {"hist_quantile(500, -h_bucket)", 0, ""},
		// Without their names buckets of two series are of one group, in the order of their labels.
		{`hist_quantile(500, {a="1"})`, 0, "{a=1} 15"}, {`hist_quantile(500, {a!="9"})`, 0, "{a=1} 15; {a=2} 5; {b=1} 5"}, {`hist_quantile(250, {b="1"})`, 0, "{b=1} 2"},
	})
	item := func(value int, pairs ...string) impl.Item {
		return impl.Item{Labels: labelsOf(pairs...), Value: value}
	}
	good := []impl.Item{item(2, "a", "1", "le", "10"), item(4, "a", "1", "le", "inf"), item(2, "le", "10"), item(4, "le", "inf")}
	if got := checkHist(t, good, 250); len(got) != 2 || len(got[0].Labels) != 0 || got[1].Value != 5 {
		t.Errorf("two groups: %v", got)
	}
	full := func(n int) []impl.Item {
		var out []impl.Item
		for i := range n {
			out = append(out, item(i, "a", strconv.Itoa(1000+i/2), "le", []string{"10", "inf"}[i%2]))
		}
		return out
	}
	if got := checkHist(t, full(200), 500); len(got) != 100 {
		t.Errorf("200 items: %d", len(got))
	}
	if got := checkHist(t, full(201), 500); len(got) != 0 {
		t.Errorf("201 items: %d", len(got))
	}
	wrong := [][]impl.Item{
		{good[1], good[0]}, {good[0], good[0], good[1]}, {good[2], good[0], good[1], good[3]}, append(slices.Clone(good), good[3]), make([]impl.Item, 2), make([]impl.Item, 1<<16),
	}
	for _, l := range badLabels() {
		wrong = append(wrong, append(slices.Clone(good), impl.Item{Labels: l}), append([]impl.Item{{Labels: l, Value: 3}}, good...))
	}
	for i, items := range wrong {
		if got := checkHist(t, items, 500); len(got) != 0 {
			t.Errorf("wrong items %d: %v", i, got)
		}
	}
	checkHist(t, make([]impl.Item, 1), 500)
	checkHist(t, nil, 500)
}

// Buckets at random: the quantile does not fall, and values of any size are reckoned as ints wrap.
func TestHistogramsAtRandom(t *testing.T) {
	r := rand.New(rand.NewSource(164))
	for range 4000 {
		var words []string
		value, great := 0, likely(r, 5)
		for range r.Intn(6) {
			value += r.Intn(9) - 1
			if great {
				value = oneOf(r, edgeValue(r), value)
			}
			words = append(words, fmt.Sprintf("%d:%d/%s", oneOf(r, r.Intn(20), r.Intn(20)-10, r.Intn(2000)), value, oneOf(r, "a", "b")))
		}
		for range oneOf(r, 0, 1, 1, 1, 2) {
			words = append(words, fmt.Sprintf("inf:%d/%s", value+r.Intn(4), oneOf(r, "a", "b", "c")))
		}
		slices.Sort(words)
		seen := map[string]bool{}
		words = slices.DeleteFunc(words, func(w string) bool {
			at := w[:strings.LastIndex(w, ":")] + w[strings.Index(w, "/"):]
			was := seen[at]
			seen[at] = true
			return was
		})
		items := bucketItems(strings.Join(words, " "))
		for range 5 {
			checkHist(t, items, oneOf(r, 0, 1, 500, 999, 1000, r.Intn(1001), -1, 1001, math.MinInt, math.MaxInt))
		}
	}
	// Of buckets that do not fall, with bounds above 0.
	for range 1000 {
		var words []string
		value, bound := 0, 0
		for range 1 + r.Intn(6) {
			value, bound = value+r.Intn(9), bound+1+r.Intn(50)
			words = append(words, fmt.Sprintf("%d:%d", bound, value))
		}
		items := bucketItems(strings.Join(append(words, fmt.Sprintf("inf:%d", value+1+r.Intn(5))), " "))
		last := 0
		for q := 0; q <= 1000; q += 1 + r.Intn(60) {
			got := checkHist(t, items, q)
			if len(got) != 1 || got[0].Value < last || got[0].Value > bound {
				t.Fatalf("%d of %s: %v behind %d", q, shortly(items), got, last)
			}
			last = got[0].Value
		}
	}
}

// presentSeries are n series that have a sample at all times up to end.
func presentSeries(n int, end int) []impl.Series {
	var out []impl.Series
	for i := range n {
		s := impl.Series{Labels: labelsOf("_name", "m", "i", strconv.Itoa(1000+i))}
		for time := 0; time <= end; time += 300 {
			s.Samples = append(s.Samples, impl.Sample{Time: time, Value: i})
		}
		out = append(out, s)
	}
	return out
}

// ended is a list whose first n series end at a time.
func ended(list []impl.Series, n int, time int) []impl.Series {
	out := slices.Clone(list)
	for i := range n {
		l := slices.DeleteFunc(slices.Clone(out[i].Samples), func(s impl.Sample) bool { return s.Time >= time })
		out[i].Samples = append(l, impl.Sample{Time: time, Value: math.MinInt})
	}
	return out
}

func TestWhatIsTouched(t *testing.T) {
	want := func(name string, got int, touched bool) {
		t.Helper()
		if (got == impl.ErrTouched) != touched || got != 0 && got != impl.ErrTouched {
			t.Errorf("%s: Err %d", name, got)
		}
	}
	// 500 steps, at each the node and its items; at the last step one item more.
	last := append(presentSeries(99, 499), impl.Series{Labels: labelsOf("_name", "z"), Samples: samplesAt(7, 499)})
	all := plainQuery(`{a=""}`)
	want("99 items at 500 steps", checkEvalRange(t, last[:99], all, 0, 499, 1).Err, false)
	want("one more at the last", checkEvalRange(t, last, all, 0, 499, 1).Err, true)
	want("that is not asked", checkEvalRange(t, last, all, 0, 498, 1).Err, false)
	// A call, a QSub, and at each of 1000 steps a QSelect and its 49 items; at the last one 47 and 48.
	over := plainQuery("count_over(m[1000:1])")
	want("48 at the last step", checkEval(t, ended(presentSeries(49, 1000), 1, 1000), over, 1000).Err, true)
	want("47 at the last step", checkEval(t, ended(presentSeries(49, 1000), 2, 1000), over, 1000).Err, false)
	// A QRange counts itself and its samples; not its QSelect, and no marks.
	var full []impl.Series
	for i := range 25 {
		full = append(full, impl.Series{Labels: labelsOf("_name", "m", "i", strconv.Itoa(100+i)), Samples: steadySamples(2000, 0, 1, i)})
	}
	span := plainQuery("m[2000]")
	want("50000 samples", checkEval(t, full, span, 1999).Err, true)
	full[7].Samples = full[7].Samples[1:]
	if got := checkEval(t, full, span, 1999); got.Err != 0 || len(got.Rows) != 25 {
		t.Errorf("49999 samples: Err %d", got.Err)
	}
	want("and a call", checkEval(t, full, askCall("rise", span), 1999).Err, true)
	want("and a QSelect", checkEval(t, full, plainQuery("none or m"), 1999).Err, false)
	full = append(full, impl.Series{Labels: labelsOf("_name", "m", "i", "z"), Samples: steadySamples(2000, 0, 1, math.MinInt)})
	want("and 2000 marks", checkEval(t, full, span, 1999).Err, false)
	// Nodes alone: 49 at each of 1000 steps, one at each of so many, and five around them.
	q := [][]impl.Query{}
	for range 25 {
		q = append(q, askNum(1))
	}
	for len(q) > 1 {
		q = append(q[2:], askOp(impl.OpAdd, q[0], q[1]))
	}
	for n, touched := range map[int]bool{994: false, 995: false, 996: true, 1000: true} {
		two := askOp(impl.OpAdd, askCall("sum_over", askSub(1000, 1, q[0])), askCall("sum_over", askSub(n, 1, askNum(1))))
		want(fmt.Sprint("49 nodes and ", n), checkEval(t, nil, two, 5000).Err, touched)
		if !touched {
			want("steps together", checkEvalRange(t, nil, two, 5000, 5000, 1).Err, false)
			want("steps together", checkEvalRange(t, nil, two, 5000, 5001, 1).Err, true)
		}
	}
	// Steps within steps.
	want("steps within steps", checkEval(t, nil, plainQuery("sum_over(sum_over(1[1000:1])[49:1])"), 5000).Err, false)
	want("steps within steps", checkEval(t, nil, plainQuery("sum_over(sum_over(1[1000:1])[50:1])"), 5000).Err, true)
	want("steps without end", checkEval(t, nil, plainQuery("sum_over(sum_over(sum_over(sum_over(1[1000:1])[1000:1])[1000:1])[1000:1])"), 5000).Err, true)
}

// filler is a question of kind vector that counts just so many, whenever it is asked; n in 20..51000.
func filler(n int) []impl.Query {
	steps := func(many int, of []impl.Query) []impl.Query {
		q := asked(askSub(many, 1, of), func(x *impl.Query) { x.Fixed, x.At = true, 5000 })
		return askCall("sum_over", q)
	}
	one := steps(1000, askNum(1))
	whole := (n - 8) / 1002
	if whole == 0 {
		return steps(n-2, askNum(1))
	}
	left := n - 3 - 1002*whole
	return askOp(impl.OpOr, steps(whole, one), steps(left-2, askNum(1)))
}

// What each question counts: a filler is put ahead of it, so that all is just as much as may be, and one more. An Err of the question's own comes ahead of what would be counted behind it.
func TestWhatQuestionsCount(t *testing.T) {
	for _, n := range []int{20, 999, 1002, 1010, 1011, 1500, 2012, 5000, 49000} {
		e := evalModel{q: filler(n)}
		if err := caught(func() { e.value(0, 3) }); err != 0 || e.touched != n {
			t.Fatalf("a filler of %d counts %d, Err %d", n, e.touched, err)
		}
	}
	a := newEvalAsker(165)
	kinds, faults, tried := map[int]int{}, 0, 0
	for tried < 150 {
		list, q, time := a.list(), a.question(), a.Intn(700)
		switch kindModel(q) {
		case "number":
			q = askCall("vector", q)
		case "range":
			q = askCall("count_over", q)
		}
		e := evalModel{list: list, q: q}
		err := caught(func() { e.value(0, time) })
		if len(q) > 45 || !goodQueryModel(askNeg(q)) || err == 0 && len(q) < 5 || err != 0 && faults > 50 {
			continue
		}
		tried++
		if err != 0 {
			faults++
		}
		for _, x := range q {
			kinds[x.Kind]++
		}
		for _, more := range []int{0, 1} {
			whole := askOp(impl.OpOr, filler(maxTouched-1-e.touched+more), q)
			want := []int{err, impl.ErrTouched}[more]
			if got := impl.EvalQuery(list, whole, time); got.Err != want {
				t.Fatalf("%s at %d counts %d, %d more are %d: Err %d, not %d", impl.QueryText(q), time, e.touched, more, maxTouched+more, got.Err, want)
			}
		}
	}
	for kind := impl.QNum; kind <= impl.QCall; kind++ {
		if kinds[kind] < 10 {
			t.Errorf("kind %d only %d times", kind, kinds[kind])
		}
	}
}

// Which Err is come to first: a kid's ahead of its parent's own, the left kid's ahead of the right one's.
func TestWhichErrComesFirst(t *testing.T) {
	list := plainSeries("m{a=1} 0:5; m{a=2} 0:6; n{a=1} 0:7")
	vectors := map[int]string{
		impl.ErrTwins:   `-{a="1"}`,
		impl.ErrMatches: "(m + on() m)",
		impl.ErrZero:    "vector(1 / 0)",
		impl.ErrLabel:   `label_set(none, "1", "", "a", "*")`,
		impl.ErrSubs:    "sum_over(1[1001:1] @ 5000)",
		impl.ErrTouched: "sum_over(sum_over(1[1000:1] @ 5000)[1000:1] @ 5000)",
	}
	for first, x := range vectors {
		for second, y := range vectors {
			if first == second {
				continue
			}
			for _, ask := range []string{
				x + " + " + y, x + " or " + y, x + " and " + y, x + " unless on(a) " + y, x + " > bool on(a) group_left(b) " + y, "topk(scalar(" + x + "), " + y + ")", "clamp(m, scalar(" + x + "), scalar(" + y + "))", "clamp(" + x + ", scalar(" + y + "), 1)", "scalar(" + x + ") / scalar(" + y + ")", "quantile_over(scalar(" + x + "), (" + y + ")[10:5])", "predict((" + x + ")[10:5], scalar(" + y + "))", "hist_quantile(scalar(" + x + "), " + y + ")", "m + (" + x + " + " + y + ")", "sum(" + x + " + m) + " + y,
				// All kids are asked, whatever the others say.
				"none + " + x + " + " + y, "clamp(none, 2, scalar(" + x + " + " + y + "))", "none and (" + x + " + " + y + ")",
			} {
				got := impl.EvalQuery(list, plainQuery(ask), 0)
				if !same(got, impl.EvalRes{Err: first}) {
					t.Errorf("%s: %+v, not Err %d", ask, got, first)
				}
			}
		}
		for _, ask := range []string{
			"label_set(" + x + `, "1", "", "a", "*")`, "label_join(" + x + `, "1", "", "a")`, "scalar(" + x + ") / 0", "1 / scalar(" + x + ")", "-(" + x + ")", "sum_over((" + x + ")[10:5])", "m + on() (" + x + ")", "(" + x + ") + on() m",
		} {
			if got := impl.EvalQuery(list, plainQuery(ask), 0); !same(got, impl.EvalRes{Err: first}) {
				t.Errorf("%s: %+v, not Err %d", ask, got, first)
			}
		}
		if got := impl.EvalRange(list, plainQuery(x), 0, 20, 5); !same(got, impl.RangeRes{Err: first}) {
			t.Errorf("%s over steps: %+v", x, got)
		}
	}
}

func TestRangesOfAnswers(t *testing.T) {
	list := plainSeries("m{a=1} 0:1 10:2 20:3; m{a=2} 10:5 20:end 30:6; n 0:4")
	for _, c := range []struct {
		ask            string
		from, to, step int
		want           string
	}{
		{"m", 0, 30, 10, "m{a=1} 0:1 10:2 20:3 30:3; m{a=2} 10:5 30:6"}, {"m", 0, 29, 10, "m{a=1} 0:1 10:2 20:3; m{a=2} 10:5"}, {"m", 5, 25, 10, "m{a=1} 5:1 15:2 25:3; m{a=2} 15:5"}, {"m", 7, 7, 1, "m{a=1} 7:1"}, {"m", 7, 7, maxTime, "m{a=1} 7:1"}, {"m", 0, maxTime, maxTime, "m{a=1} 0:1"}, {"m", 20, 20, 5, "m{a=1} 20:3"}, {"none", 0, 30, 10, ""}, {"m", 1000, 2000, 100, ""},
		{"time()", 3, 10, 3, "{} 3:3 6:6 9:9"}, {"5", 0, 20, 10, "{} 0:5 10:5 20:5"}, {"0", 0, 0, 1, "{} 0:0"}, {"scalar(n)", 299, 302, 1, "{} 299:4 300:4 301:0 302:0"}, {"sum(m)", 0, 20, 10, "{} 0:1 10:7 20:3"}, {"absent(m{a=\"2\"})", 0, 30, 10, "{} 0:1 20:1"}, {"-m", 10, 20, 10, "{a=1} 10:-2 20:-3; {a=2} 10:-5"}, {"timestamp(m)", 5, 15, 10, "{a=1} 5:0 15:10; {a=2} 15:10"}, {"m @ 10", 0, 20, 20, "m{a=1} 0:2 20:2; m{a=2} 0:5 20:5"}, {"m offset 10", 0, 20, 10, "m{a=1} 10:1 20:2; m{a=2} 20:5"}, {"rise(m[20])", 10, 20, 10, "{a=1} 10:1 20:1; {a=2} 10:0 20:0"}, {"m > 2", 0, 30, 10, "m{a=1} 20:3 30:3; m{a=2} 10:5 30:6"}, {"topk(1, m)", 0, 30, 10, "m{a=1} 0:1 20:3; m{a=2} 10:5 30:6"},
		{"n or m", 0, 10, 10, "m{a=1} 0:1 10:2; m{a=2} 10:5; n 0:4 10:4"},
	} {
		got := checkEvalRange(t, list, plainQuery(c.ask), c.from, c.to, c.step)
		if text := rowsText(got.Rows); got.Err != 0 || text != c.want {
			t.Errorf("%s from %d to %d by %d: Err %d, %s, not %s", c.ask, c.from, c.to, c.step, got.Err, text, c.want)
		}
	}
	for _, c := range []struct {
		ask            string
		from, to, step int
		err            int
	}{
		{"m", 10, 9, 1, 1}, {"m", 1, 0, 1, 1}, {"m", 0, 10, 0, 1}, {"m", 0, 10, -1, 1}, {"m", 0, 10, math.MinInt, 1}, {"m", 0, 10, maxTime, 0}, {"m", 0, 10, maxTime + 1, 1}, {"m", 0, 10, math.MaxInt, 1}, {"m", -1, 10, 1, 1}, {"m", 0, -1, 1, 1}, {"m", math.MinInt, math.MaxInt, 1, 1}, {"m", maxTime, maxTime, 1, 0}, {"m", maxTime + 1, maxTime + 1, 1, 1}, {"m", maxTime, maxTime + 1, 1, 1},
		// Just so many steps, and one more.
		{"m", 0, 499, 1, 0}, {"m", 0, 500, 1, 1}, {"m", 7, 506, 1, 0}, {"m", 7, 507, 1, 1}, {"m", 0, 4999, 10, 0}, {"m", 0, 5000, 10, 1}, {"m", 0, maxTime, 2000000000, 1}, {"m", 1, maxTime, 2000000000, 0}, {"m", 0, maxTime, 1, 1}, {"5", 0, 500, 1, 1}, {"5", 0, 499, 1, 0},
		// Kinds that no row is made of.
		{`"x"`, 0, 10, 1, 1}, {"m[5]", 0, 10, 1, 1}, {"m[5:1]", 0, 10, 1, 1}, {"5[5:1]", 0, 10, 1, 1}, {"-m[5]", 0, 10, 1, 1}, {"vector(5)", 0, 10, 1, 0},
		// The first Err of a step.
		{"1 / (time() - 5)", 0, 4, 1, 0}, {"1 / (time() - 5)", 0, 5, 1, 5}, {"1 / (time() - 5)", 0, 100, 1, 5}, {"1 / (time() - 5)", 6, 100, 1, 0}, {"1 / (time() - 5)", 0, 10, 2, 0}, {"vector(1 / (time() - 5)) + sum(1 + on() group_left() m)", 0, 10, 1, 1}, {"vector(1 / (time() - 5)) + sum(vector(1) + on() m)", 0, 10, 1, 5}, {"vector(1 / (time() - 15)) + sum(vector(1) + on() m)", 0, 20, 1, 4}, {"vector(1 / (time() - 5)) or sum_over(1[2000:1] @ 5000)", 0, 20, 1, 7}, {"vector(1 / time()) or sum_over(1[2000:1] @ 5000)", 0, 20, 1, 5},
	} {
		if got := checkEvalRange(t, list, plainQuery(c.ask), c.from, c.to, c.step); got.Err != c.err {
			t.Errorf("%s from %d to %d by %d: Err %d, not %d", c.ask, c.from, c.to, c.step, got.Err, c.err)
		}
	}
}

// Promise 16: a question asked over steps says at each of them what it says at that time.
func TestStepsSayWhatTimesDo(t *testing.T) {
	a := newEvalAsker(166)
	rows, faults := 0, 0
	for range 6000 {
		list, q := a.list(), a.question()
		if kind := impl.KindOfQuery(q); kind != "number" && kind != "vector" {
			continue
		}
		from, step := a.Intn(400), 1+a.Intn(40)
		to := from + a.Intn(8*step)
		got := checkEvalRange(t, list, q, from, to, step)
		at := map[string]map[int]int{}
		labels := map[string][]impl.Label{}
		err := 0
		for time := from; time <= to && err == 0; time += step {
			r := impl.EvalQuery(list, q, time)
			err = r.Err
			if impl.KindOfQuery(q) == "number" {
				r.Items = []impl.Item{{Value: r.Number}}
			}
			for _, x := range r.Items {
				text := impl.LabelsText(x.Labels)
				if at[text] == nil {
					at[text] = map[int]int{}
				}
				at[text][time], labels[text] = x.Value, x.Labels
			}
		}
		want := impl.RangeRes{Err: err}
		if err == 0 {
			want.Rows = seriesOf(labels, at)
		} else {
			faults++
		}
		if !same(got, want) {
			t.Fatalf("%s from %d to %d by %d: %s, not %s", impl.QueryText(q), from, to, step, shortly(got), shortly(want))
		}
		rows += len(got.Rows)
	}
	if rows < 3000 || faults < 200 {
		t.Errorf("only %d rows and %d faults", rows, faults)
	}
}

// Promise 16: the sum of a selection is the sum of its sums by any names.
func TestSumsOfSums(t *testing.T) {
	a := newEvalAsker(167)
	seen := 0
	for range 3000 {
		list, q, time := a.list(), a.selection(), a.Intn(500)
		if likely(a.Rand, 3) {
			q = a.vector(5)
		}
		sums := asked(askAgg(impl.AggSum, q), func(x *impl.Query) { x.By, x.Names = 1+a.Intn(2), a.names() })
		one, two := impl.EvalQuery(list, askAgg(impl.AggSum, q), time), impl.EvalQuery(list, askAgg(impl.AggSum, sums), time)
		if !same(one, two) {
			t.Fatalf("%s at %d: %s, by %v %s", impl.QueryText(q), time, evalText(one), sums[0].Names, evalText(two))
		}
		if len(one.Items) > 0 {
			seen++
		}
	}
	if seen < 1000 {
		t.Errorf("only %d", seen)
	}
}

// Promise 16: a counter that rises by m a second, told every g seconds, has the rate 1000 m over every span with two of its samples in it that it covers.
func TestSteadyCountersHaveTheirRate(t *testing.T) {
	r := rand.New(rand.NewSource(168))
	for range 3000 {
		m, g, n := r.Intn(50), 1+r.Intn(60), 2+r.Intn(30)
		from := r.Intn(1000)
		s := series("m")
		for i := range n {
			s.Samples = append(s.Samples, impl.Sample{Time: from + i*g, Value: 7 + i*g*m})
		}
		last := from + (n-1)*g
		// The span begins at the first sample at the earliest, as it covers no times ahead of that, and ends within a gap behind the last one.
		time := from + g + r.Intn(last-from-g+g)
		num := 1 + r.Intn(time-from+1)
		got := checkEval(t, []impl.Series{s}, askCall("rate", askRange(num, askSelect("m"))), time)
		inside := 0
		for _, x := range s.Samples {
			if x.Time > time-num && x.Time <= time {
				inside++
			}
		}
		want := ""
		if inside >= 2 {
			want = fmt.Sprint("{} ", 1000*m)
		}
		if evalText(got) != want {
			t.Fatalf("%d by %d from %d on, %d of them, [%d] at %d: %s, not %s", m, g, from, n, num, time, evalText(got), want)
		}
	}
}

// Promise 27: any arguments are answered, nothing is written, no memory is shared.
func TestAnswersToAnything(t *testing.T) {
	a := newEvalAsker(169)
	edges := []int{0, 1, -1, 300, 301, maxTime - 1, maxTime, maxTime + 1, math.MaxInt, math.MinInt}
	lists := append(badSeries(), nil, a.list(), a.list())
	for range 4000 {
		q := a.question()
		for range a.Intn(3) {
			a.change(&q[a.Intn(len(q))])
		}
		if likely(a.Rand, 5) {
			i := a.Intn(len(q))
			q = slices.Delete(q, i, i+1)
		}
		list := a.list()
		if likely(a.Rand, 6) {
			list = oneOf(a.Rand, lists...)
		}
		if impl.KindOfQuery(q) != "" && goodSeriesModel(list) && slices.ContainsFunc(q, func(x impl.Query) bool { return x.Kind == impl.QSub && x.Num > 2000 }) {
			continue
		}
		checkEval(t, list, q, oneOf(a.Rand, a.Intn(700), oneOf(a.Rand, edges...)))
		checkEvalRange(t, list, q, oneOf(a.Rand, a.Intn(300), oneOf(a.Rand, edges...)), oneOf(a.Rand, a.Intn(600), oneOf(a.Rand, edges...)), oneOf(a.Rand, 1+a.Intn(100), oneOf(a.Rand, edges...)))
	}
	for _, q := range edges {
		checkQuantile(t, nil, q)
		checkQuantile(t, edges, q)
		checkHist(t, nil, q)
		checkHist(t, bucketItems("10:4 20:8 inf:10"), q)
		for _, b := range edges {
			if got := impl.Quotient(q, b); got != quotientModel(q, b) {
				t.Errorf("%d by %d: %d", q, b, got)
			}
		}
	}
}

// Each kind of answer is new: what is written into one shows in no other.
func TestAnswersAreNew(t *testing.T) {
	list := plainSeries("m{a=1} 0:1 10:2; m{a=2} 0:3 10:4; h{le=5} 0:1; h{le=inf} 0:2")
	for _, ask := range []string{"m", "m[20]", "m[20:10]", "m > 0", "m and m", "m or h", "m + on(a) group_left(a) m", "m == m", "topk(2, m)", "sum by (a)(m)", "sum without (a)(m)", "last_over(m[20])", `label_set(m, "b", "x", "a", "*")`, `label_set(m, "b", "x", "a", "")`, `label_join(m, "b", "x", "a", "a")`, "hist_quantile(500, h)", "vector(1)", "absent(none)", "(1)[20:10]", "-m"} {
		q := plainQuery(ask)
		first, second := impl.EvalQuery(list, q, 10), impl.EvalQuery(list, q, 10)
		checkOwn(t, []impl.EvalRes{first, second}, list, q)
		was := evalText(second)
		for i := range first.Items {
			scribble(first.Items[i].Labels)
			first.Items[i].Value = -1
		}
		for i := range first.Rows {
			scribble(first.Rows[i].Labels)
			clear(first.Rows[i].Samples)
		}
		if evalText(second) != was || evalText(impl.EvalQuery(list, q, 10)) != was || was == "" {
			t.Errorf("%s: %s", ask, was)
		}
		if kind := impl.KindOfQuery(q); kind == "vector" {
			one, two := impl.EvalRange(list, q, 0, 20, 10), impl.EvalRange(list, q, 0, 20, 10)
			checkOwn(t, []impl.RangeRes{one, two}, list, q)
		}
	}
}

// Labels that are the same bytes one behind the other, but are not the same.
func TestKeysThatLookAlike(t *testing.T) {
	list := plainSeries("m{a=bc} 0:1; m{ab=c} 0:2; m{a=1,xb=2} 0:3; m{a=1x,b=2} 0:4; n{a=bc} 0:10; n{a=1,xb=2} 0:30")
	checkEvalCases(t, list, []evalCase{
		{"sum without ()(m)", 0, "{a=1,xb=2} 3; {a=1x,b=2} 4; {a=bc} 1; {ab=c} 2"}, {"-m", 0, "{a=1,xb=2} -3; {a=1x,b=2} -4; {a=bc} -1; {ab=c} -2"}, {"m + n", 0, "{a=1,xb=2} 33; {a=bc} 11"}, {"m unless n", 0, "m{a=1x,b=2} 4; m{ab=c} 2"}, {"n or m", 0, "m{a=1x,b=2} 4; m{ab=c} 2; n{a=1,xb=2} 30; n{a=bc} 10"}, {"m[10:5]", 5, "m{a=1,xb=2} 0:3 5:3; m{a=1x,b=2} 0:4 5:4; m{a=bc} 0:1 5:1; m{ab=c} 0:2 5:2"}, {"count by (a, ab)(m)", 0, "{a=1} 1; {a=1x} 1; {a=bc} 1; {ab=c} 1"},
	})
	// Long ones that are unlike at their very end.
	list = seriesList(labelled("m", 18, "z", "1"), labelled("m", 18, "z", "2"), labelled("nn", 18, "z", "2"))
	for ask, want := range map[string]string{"count(sum without ()(m))": "{} 2", "sum by (z)(m + nn)": "{z=2} 3", "sum by (z)(m unless nn)": "{z=1} 1", "count(sum_over(m[5:5]))": "{} 2"} {
		checkEvalCases(t, list, []evalCase{{ask, 0, want}})
	}
}

// Many buckets with one le stay in the order of their names.
func TestBucketsWithOneBound(t *testing.T) {
	var words []string
	for i := range 60 {
		words = append(words, fmt.Sprintf("%d:%d/n%d", []int{20, 10, 30}[i%3], (i*37)%61, 100+i))
	}
	items := bucketItems(strings.Join(append(words, "inf:60/z"), " "))
	for q := range 1001 {
		checkHist(t, items, q)
	}
}
