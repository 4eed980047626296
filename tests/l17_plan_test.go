package tests

import (
	"fmt"
	"maps"
	"math"
	"slices"
	"strings"
	"testing"

	"loop.example/g00039/impl"
)

const maxCached = 20

// constantModel tells the value of the constant that begins at a row, and how many rows it has; 0 where none begins there.
func constantModel(q []impl.Query, i int) (int, int) {
	switch {
	case i < len(q) && q[i].Kind == impl.QNum:
		return q[i].Num, 1
	case i+1 < len(q) && q[i].Kind == impl.QNeg && q[i+1].Kind == impl.QNum && q[i+1].Num > 0:
		return -q[i+1].Num, 2
	}
	return 0, 0
}

// constantRows are the rows of a constant.
func constantRows(value int) []impl.Query {
	if value < 0 {
		return askNeg(askNum(-value))
	}
	return askNum(value)
}

// foldRowModel tells what the tree at a row comes to, and how many rows it has, where all below it is constants; 0 where it does not.
func foldRowModel(q []impl.Query, i int) (int, int) {
	x := q[i]
	left, n := constantModel(q, i+1)
	if n > 0 && x.Kind == impl.QNeg {
		return -left, 1 + n
	}
	right, m := constantModel(q, i+1+n)
	if n == 0 || m == 0 || x.Kind != impl.QOp || x.By != 0 || x.Op > 11 || x.Op > 5 && !x.Bool {
		return 0, 0
	}
	value, ok := reckonModel(x.Op, left, right)
	if !ok {
		return 0, 0
	}
	return value, 1 + n + m
}

// foldModel goes through the rows from the last one on, so that all below a row is folded ahead of it.
func foldModel(q []impl.Query) []impl.Query {
	if !goodQueryModel(q) {
		return nil
	}
	out := slices.Clone(q)
	for i := len(out) - 1; i >= 0; i-- {
		if value, n := foldRowModel(out, i); n > 0 && value != math.MinInt {
			out = slices.Concat(out[:i], constantRows(value), out[i+n:])
		}
	}
	return out
}

func checkFold(t *testing.T, q []impl.Query) []impl.Query {
	t.Helper()
	arg, kept := guarded(q)
	got, want := impl.FoldQuery(arg), foldModel(q)
	if !same(got, want) || !kept() {
		t.Fatalf("%s becomes\n%s, not\n%s", shortly(q), shortly(got), shortly(want))
	}
	checkOwn(t, got, arg)
	return got
}

func TestFoldedConstants(t *testing.T) {
	const most = "9223372036854775807"
	for ask, want := range map[string]string{
		"0": "0", "7": "7", most: most, "-0": "0", "-7": "-7", "--7": "7", "---7": "-7", "----7": "7", "--0": "0", "-(0)": "0", "-" + most: "-" + most, "--" + most: most,
		"1 + 2": "3", "1 - 2": "-1", "2 * 3": "6", "7 / 2": "3", "7 % 2": "1", "-7 / 2": "-4", "7 / -2": "-4", "-7 / -2": "3", "-7 % 2": "1", "7 % -2": "-1", "-7 % -2": "-1", "0 / 7": "0", "0 - 0": "0", "5 - 5": "0", "-(5 - 5)": "0", "0 * -7": "0", "-(1 - 2)": "1", "-(2 - 1)": "-1",
		"1 == bool 1": "1", "1 != bool 1": "0", "2 > bool 1": "1", "2 < bool 1": "0", "2 >= bool 2": "1", "2 <= bool 1": "0", "-1 < bool 0": "1", "1 == bool 2 == bool 0": "1", "-(1 == bool 1)": "-1",
		// Without Bool, and with names, an operation of numbers has no kind; nor have those of vectors.
		"1 == 1": "1 == 1", "1 != 2": "1 != 2", "2 > 1": "2 > 1", "2 < 1": "2 < 1", "1 >= 1": "1 >= 1", "1 <= 1": "1 <= 1", "1 + on() 2": "1 + on() 2", "1 + on(a) 2": "1 + on(a) 2", "1 - ignoring() 2": "1 - ignoring() 2", "1 == bool on() 1": "1 == bool on() 1", "1 + on() group_left() 2": "1 + on() group_left() 2", "1 and 2": "1 and 2", "1 unless 2": "1 unless 2", "1 or 2": "1 or 2", "(1 + 2) and -0": "3 and 0", "1 + 2 == 3": "3 == 3", "-(1 == 1)": "-(1 == 1)", "1 + (2 == 2)": "1 + (2 == 2)",
		// By 0 nothing comes of them.
		"1 / 0": "1 / 0", "1 % 0": "1 % 0", "0 / 0": "0 / 0", "1 / -0": "1 / 0", "1 / (2 - 2)": "1 / 0", "1 / 0 + 2": "1 / 0 + 2", "1 + 2 + 1 / 0": "3 + 1 / 0", "1 / 0 * (2 + 3)": "1 / 0 * 5", "-(1 / 0)": "-(1 / 0)", "1 % (5 - 5) == bool 0": "1 % 0 == bool 0", "0 * (1 / 0)": "0 * (1 / 0)",
		// The least int is none that a constant can be; both ends that can be are.
		"-" + most + " - 1": "-" + most + " - 1", most + " + 1": most + " + 1", most + " + 0": most, most + " + 2": "-" + most, "-" + most + " - 2": most, "-" + most + " + 0": "-" + most, "4611686018427387904 * 2": "4611686018427387904 * 2", "4611686018427387904 * -2": "4611686018427387904 * -2", "4611686018427387904 * 4": "0", most + " * " + most: "1", most + " * -1": "-" + most, "-" + most + " / -1": most, "-" + most + " * 2": "2", most + " - -1": most + " - -1", "-(-" + most + " - 1)": "-(-" + most + " - 1)", "(-" + most + " - 1) * 0": "(-" + most + " - 1) * 0", "(-" + most + " - 1) + (1 + 1)": "-" + most + " - 1 + 2", "0 - " + most: "-" + most, "-" + most + " - 1 == bool 5 - 4": "-" + most + " - 1 == bool 1", most + " % -" + most: "0", most + " > bool -" + most: "1",
		// What is no constant stays; from the left on, as they stand.
		"m": "m", "-m": "-m", "time()": "time()", "-time()": "-time()", "1 + time() + 2": "1 + time() + 2", "1 + 2 + time()": "3 + time()", "time() + (1 + 2)": "time() + 3", "--time()": "--time()", "-(-m)": "--m", "0 * m": "0 * m", "m * (7 - 7)": "m * 0", "m + 1 + 2": "m + 1 + 2", "-(2 + 3 * 4) + up * (7 - 7)": "-14 + up * 0", "m - -0": "m - 0", "m - (3 - 5)": "m - -2", "-5 * m": "-5 * m", `"x"`: `"x"`, `-"x"`: `-"x"`, `"x" + (1 + 1)`: `"x" + 2`, "m and (1 + 1)": "m and 2", "m == 1 + 1": "m == 2", "m > bool -(1 + 1)": "m > bool -2", "m + on(a) (1 + 1)": "m + on(a) 2",
		// Below each other kind of node.
		"(1 + 2)[10:5]": "(3)[10:5]", "(1 - 2)[10:5] offset 3 @ 4": "(-1)[10:5] offset 3 @ 4", "sum_over((m + (1 + 2))[10:5])": "sum_over((m + 3)[10:5])", "sum_over((sum_over((1 + 2)[20:2]))[10:5])": "sum_over((sum_over((3)[20:2]))[10:5])", "clamp(m, 1 - 2, 2 * 3)": "clamp(m, -1, 6)", "vector(1 + 2)": "vector(3)", "-vector(-0)": "-vector(0)", "topk(1 + 2, m)": "topk(3, m)", "bottomk by (a)(--2, m)": "bottomk by (a)(2, m)", "quantile without (b)(1000 / 2, m)": "quantile without (b)(500, m)", "hist_quantile(400 + 100, h)": "hist_quantile(500, h)", "quantile_over(400 + 100, m[5])": "quantile_over(500, m[5])", "predict(m[5], 60 * 60)": "predict(m[5], 3600)", "scalar(vector(1 + 2)) + (3 + 4)": "scalar(vector(3)) + 7", "sum(1 + 2)": "sum(3)", "rate(1 + 2, -0)": "rate(3, 0)", `label_set(m, "1 + 2", "", "-0", "*")`: `label_set(m, "1 + 2", "", "-0", "*")`,
	} {
		q := plainQuery(ask)
		got := checkFold(t, q)
		if text := impl.QueryText(got); text != want {
			t.Errorf("%s becomes %s, not %s", ask, text, want)
		}
		if len(got) > len(q) {
			t.Errorf("%s becomes longer: %s", ask, want)
		}
	}
	for i, q := range [][]impl.Query{nil, {{}}, {{Kind: impl.QNum, Num: -1}}, {{Kind: impl.QNum, Num: 1, Op: 1}}, {{Kind: impl.QNeg, Kids: 1}}, append(askNum(1), askNum(2)...), askNeg(askNum(-5)), askOp(0, askNum(1), askNum(2)), askOp(15, askNum(1), askNum(2)), asked(askOp(1, askNum(1), askNum(2)), func(x *impl.Query) { x.Bool = true }), queryTree(impl.Query{Kind: impl.QOp, Op: 1}, askNum(1)), deepQuery(13), wideQuery(61), askNeg(askNum(math.MinInt))} {
		if got := checkFold(t, q); len(got) > 0 {
			t.Errorf("not good %d: %v", i, got)
		}
	}
	deep, wide := askNum(1), askNum(1)
	for range 11 {
		deep = askOp(impl.OpSub, deep, askNum(1))
	}
	for len(wide) < 29 {
		wide = askOp(impl.OpAdd, askNum(1), askNeg(askNum(2)))
		wide = askCall("clamp", wide, wide, wide, wide, wide, wide, wide)
	}
	if got := impl.QueryText(checkFold(t, deep)); got != "-10" {
		t.Errorf("12 within each other: %s", got)
	}
	if got := impl.QueryText(checkFold(t, wide)); got != "clamp(-1, -1, -1, -1, -1, -1, -1)" {
		t.Errorf("%d nodes: %s", len(wide), got)
	}
	if got := checkFold(t, wideQuery(60)); !same(got, wideQuery(60)) {
		t.Error("60 nodes change")
	}
}

// Every operation of every two of some constants, with Bool and without, with names and without.
func TestFoldedOperations(t *testing.T) {
	values := []int{0, 1, -1, 2, -2, 3, 7, -7, 1 << 32, -1 << 32, 1 << 62, -1 << 62, math.MaxInt, math.MaxInt - 1, -math.MaxInt, 1 - math.MaxInt}
	for op := range 16 {
		for _, a := range values {
			for _, b := range values {
				for way := range 12 {
					q := impl.Query{Kind: impl.QOp, Op: op, Bool: way%2 == 1, By: way / 2 % 3}
					if way > 5 {
						q.Side = impl.SideLeft
					}
					tree := queryTree(q, constantRows(a), constantRows(b))
					got := checkFold(t, tree)
					value, rows := constantModel(got, 0)
					if said := impl.EvalQuery(nil, tree, 5); rows > 0 && (said.Err != 0 || said.Number != value || len(got) != rows) {
						t.Fatalf("%d of %d and %d is %v, not %d", op, a, b, got, said.Number)
					}
				}
			}
		}
	}
}

// constants are a question of constants alone, which may have no kind.
func (a evalAsker) constants(deep int) []impl.Query {
	if deep < 2 || likely(a.Rand, 3) {
		return askNum(oneOf(a.Rand, 0, 1, 2, a.Intn(10), math.MaxInt, math.MaxInt-1, 1<<62))
	}
	switch a.Intn(8) {
	case 0, 1:
		return askNeg(a.constants(deep - 1))
	case 2:
		return a.op(a.constants(deep-1), a.constants(deep-1))
	}
	return a.plain(a.constants(deep-1), a.constants(deep-1))
}

// withConstants is a question with constants in the place of its numbers, as far as it stays good.
func (a evalAsker) withConstants(q []impl.Query) []impl.Query {
	for i := len(q) - 1; i >= 0; i-- {
		if q[i].Kind != impl.QNum {
			continue
		}
		next := slices.Concat(q[:i], a.constants(1+a.Intn(5)), q[i+1:])
		if goodQueryModel(next) && (kindModel(q) == "" || kindModel(next) != "" || likely(a.Rand, 4)) {
			q = next
		}
	}
	return q
}

// Promise 17: a question whose constants are folded is no longer, has its kind and its answer, and stays when it is folded again.
func TestFoldedQuestionsSayTheSame(t *testing.T) {
	a := newEvalAsker(171)
	shorter, faults, none := 0, 0, 0
	for range 12000 {
		q := a.withConstants(oneOf(a.Rand, a.question, a.asker.question)())
		got := checkFold(t, q)
		if len(got) > len(q) || len(longText(got)) > len(longText(q)) || impl.KindOfQuery(got) != impl.KindOfQuery(q) {
			t.Fatalf("%s becomes %s", longText(q), longText(got))
		}
		if again := checkFold(t, got); !same(again, got) {
			t.Fatalf("%s, folded again, is %s", longText(got), longText(again))
		}
		if impl.KindOfQuery(q) == "" {
			none++
			continue
		}
		list, time := a.list(), a.Intn(500)
		before, behind := impl.EvalQuery(list, q, time), impl.EvalQuery(list, got, time)
		if !same(before, behind) && before.Err != impl.ErrTouched {
			t.Fatalf("%s at %d says %s, %s %s", longText(q), time, evalText(before), longText(got), evalText(behind))
		}
		if len(got) < len(q) {
			shorter++
		}
		if before.Err != 0 {
			faults++
		}
	}
	if shorter < 2000 || faults < 500 || none < 500 {
		t.Errorf("%d become shorter, %d have an Err, %d no kind", shorter, faults, none)
	}
}

// What is folded counts less; so an ErrTouched may go, and another answer come.
func TestFoldedQuestionsCountLess(t *testing.T) {
	whole := askOp(impl.OpOr, filler(maxTouched-4), askCall("vector", plainQuery("1 + 2")))
	if got := impl.EvalQuery(nil, whole, 5); got.Err != impl.ErrTouched {
		t.Errorf("unfolded: %d", got.Err)
	}
	if got := impl.EvalQuery(nil, checkFold(t, whole), 5); got.Err != 0 {
		t.Errorf("folded: %d", got.Err)
	}
}

// needsModel looks for all nodes above each QSelect.
func needsModel(q []impl.Query, from int, to int) []impl.Need {
	if !goodQueryModel(q) || !isWithin(from, 0, maxTime) || !isWithin(to, from, maxTime) {
		return nil
	}
	var out []impl.Need
	e := evalModel{q: q}
	for i, x := range q {
		if x.Kind != impl.QSelect {
			continue
		}
		first, last, back := from, to, 300
		for j, above := range q[:i] {
			switch {
			case e.behind(j) <= i:
			case above.Kind == impl.QRange:
				back = above.Num - 1
			case above.Kind == impl.QSub:
				first, last = momentModel(above, first)-above.Num+1, momentModel(above, last)
			}
		}
		need := impl.Need{From: max(0, momentModel(x, first)-back), To: momentModel(x, last)}
		if x.Text != "" {
			need.Match = append(need.Match, impl.Matcher{Name: "_name", Op: impl.MatchSame, Value: x.Text})
		}
		need.Match = append(need.Match, x.Match...)
		if need.To >= 0 {
			out = append(out, need)
		}
	}
	return out
}

func checkNeeds(t *testing.T, q []impl.Query, from int, to int) []impl.Need {
	t.Helper()
	arg, kept := guarded(q)
	got, want := impl.NeedsOf(arg, from, to), needsModel(q, from, to)
	if !same(got, want) || !kept() {
		t.Fatalf("%s in %d..%d needs\n%s, not\n%s", shortly(longText(q)), from, to, shortly(got), shortly(want))
	}
	checkOwn(t, got, arg)
	return got
}

// needsText tells needs shortly: {_name="m"} 0..5.
func needsText(needs []impl.Need) string {
	var out []string
	for _, x := range needs {
		out = append(out, fmt.Sprintf("%s %d..%d", matchersTextModel(x.Match), x.From, x.To))
	}
	return strings.Join(out, "; ")
}

func TestNeedsOfQuestions(t *testing.T) {
	m := `{_name="m"} `
	for _, c := range []struct {
		ask      string
		from, to int
		want     string
	}{
		{"m", 1000, 1000, m + "700..1000"}, {"m", 1000, 2000, m + "700..2000"}, {"m", 300, 400, m + "0..400"}, {"m", 301, 400, m + "1..400"}, {"m", 299, 299, m + "0..299"}, {"m", 0, 0, m + "0..0"}, {"m", maxTime, maxTime, m + "999999999700..1000000000000"}, {"m", 0, maxTime, m + "0..1000000000000"},
		{`m{a="1",b!="2"}`, 500, 500, `{_name="m",a="1",b!="2"} 200..500`}, {`{a=~"1*"}`, 500, 500, `{a=~"1*"} 200..500`}, {`{a="1"}[10]`, 500, 500, `{a="1"} 491..500`},
		{"m offset 100", 500, 600, m + "100..500"}, {"m offset 200", 500, 600, m + "0..400"}, {"m offset 201", 500, 600, m + "0..399"}, {"m offset 199", 500, 600, m + "1..401"}, {"m offset 500", 500, 500, m + "0..0"}, {"m offset 501", 500, 500, ""}, {"m offset 501", 500, 501, m + "0..0"}, {"m offset 1000000000000", 500, 500, ""}, {"m offset 1000000000000", 0, maxTime, m + "0..0"},
		{"m @ 700", 500, 600, m + "400..700"}, {"m @ 0", 500, 600, m + "0..0"}, {"m @ 700 offset 100", 500, 600, m + "300..600"}, {"m @ 700 offset 700", 5, 6, m + "0..0"}, {"m @ 700 offset 701", 5000, 6000, ""}, {"m @ 1000000000000", 0, 0, m + "999999999700..1000000000000"},
		{"m[50]", 500, 600, m + "451..600"}, {"m[1]", 500, 600, m + "500..600"}, {"m[500]", 500, 600, m + "1..600"}, {"m[501]", 500, 600, m + "0..600"}, {"m[502]", 500, 600, m + "0..600"}, {"m[300]", 500, 600, m + "201..600"}, {"m[301]", 500, 600, m + "200..600"}, {"m[1000000000000]", 500, maxTime, m + "0..1000000000000"}, {"m[1000000000000]", maxTime, maxTime, m + "1..1000000000000"}, {"m[50] offset 100", 500, 600, m + "351..500"}, {"m[50] @ 700", 500, 600, m + "651..700"}, {"m[50] offset 10 @ 700", 500, 600, m + "641..690"}, {"m[50] offset 601", 500, 600, ""}, {"m[1] @ 5 offset 5", 500, 600, m + "0..0"}, {"rate(m[50])", 500, 600, m + "451..600"},
		{"m[100:10]", 1000, 2000, m + "601..2000"}, {"(m)[1:1]", 1000, 2000, m + "700..2000"}, {"m[100:10] offset 50", 1000, 2000, m + "551..1950"}, {"m[100:10] @ 5000", 1000, 2000, m + "4601..5000"}, {"m[100:10] @ 5000 offset 50", 1000, 2000, m + "4551..4950"}, {"(m offset 7)[100:10]", 1000, 2000, m + "594..1993"}, {"(m @ 900)[100:10]", 1000, 2000, m + "600..900"}, {"(m @ 900 offset 7)[100:10] offset 3", 1000, 2000, m + "593..893"}, {"(m offset 7)[100:10] offset 50 @ 5000", 1000, 2000, m + "4544..4943"}, {"m[700:10]", 1000, 2000, m + "1..2000"}, {"m[701:1]", 1001, 2000, m + "1..2000"}, {"m[702:1]", 1001, 2000, m + "0..2000"}, {"rate(m[20])[100:10]", 1000, 2000, m + "882..2000"}, {"rate(m[20] offset 5)[100:10]", 1000, 2000, m + "877..1995"},
		// A QSub in another one, each with its own moments.
		{"sum_over(m[100:10])[50:5]", 1000, 2000, m + "552..2000"}, {"sum_over(m[100:10] offset 7)[50:5] offset 3", 1000, 2000, m + "542..1990"}, {"sum_over(m[100:10] @ 800)[50:5] offset 3", 1000, 2000, m + "401..800"}, {"sum_over(m[100:10] offset 7)[50:5] @ 1500", 1000, 2000, m + "1045..1493"}, {"sum_over(rate(m[20])[100:10] @ 800 offset 1)[50:5] @ 1500", 1000, 2000, m + "681..799"},
		// Moments below 0: nothing is looked at there, but a fixed time is told all the same.
		{"m[100:10] offset 2001", 1000, 2000, ""}, {"m[100:10] offset 2000", 1000, 2000, m + "0..0"}, {"(m offset 1)[100:10] offset 2000", 1000, 2000, ""}, {"(m @ 5)[100:10] offset 2001", 1000, 2000, m + "0..5"}, {"(m @ 5 offset 6)[100:10]", 1000, 2000, ""}, {"m[100:10] @ 5 offset 6", 1000, 2000, ""}, {"sum_over(m[100:10] @ 5)[50:5] offset 5000", 1000, 2000, m + "0..5"}, {"sum_over(m[100:10])[50:5] offset 2001", 1000, 2000, ""},
		// In order, also those that are alike.
		{"m + n", 500, 500, `{_name="m"} 200..500; {_name="n"} 200..500`}, {"n + m", 500, 500, `{_name="n"} 200..500; {_name="m"} 200..500`}, {"m + m", 500, 500, m + "200..500; " + m + "200..500"}, {"z + (y offset 1 + rate(x[5])) + w @ 9", 500, 500, `{_name="z"} 200..500; {_name="y"} 199..499; {_name="x"} 496..500; {_name="w"} 0..9`}, {"a[5:1] + b + rate(c[7]) + d", 500, 500, `{_name="a"} 196..500; {_name="b"} 200..500; {_name="c"} 494..500; {_name="d"} 200..500`}, {"a offset 501 + b", 500, 500, `{_name="b"} 200..500`}, {`topk(scalar(a), b) or clamp(c, scalar(d), 1)`, 500, 500, `{_name="a"} 200..500; {_name="b"} 200..500; {_name="c"} 200..500; {_name="d"} 200..500`},
		// None, and questions without a kind.
		{"5", 500, 500, ""}, {`"m"`, 500, 500, ""}, {"time()", 500, 500, ""}, {"(1)[50:5]", 500, 500, ""}, {"rate(m)", 500, 500, m + "200..500"}, {"sum(m[5])", 500, 500, m + "496..500"}, {`-"x" + m`, 500, 500, m + "200..500"}, {"rate(m[5], n)", 500, 500, `{_name="m"} 496..500; {_name="n"} 200..500`}, {"(m[5])[10:1]", 500, 500, m + "487..500"},
	} {
		if got := needsText(checkNeeds(t, plainQuery(c.ask), c.from, c.to)); got != c.want {
			t.Errorf("%s in %d..%d needs\n%s, not\n%s", c.ask, c.from, c.to, got, c.want)
		}
	}
	q := plainQuery("m")
	for _, c := range [][2]int{{1, 0}, {501, 500}, {-1, 5}, {-5, -1}, {0, maxTime + 1}, {maxTime + 1, maxTime + 1}, {math.MinInt, math.MaxInt}, {5, math.MinInt}, {math.MaxInt, math.MaxInt}} {
		if got := checkNeeds(t, q, c[0], c[1]); len(got) > 0 {
			t.Errorf("%d..%d: %v", c[0], c[1], got)
		}
	}
	for i, bad := range [][]impl.Query{nil, {{}}, {{Kind: impl.QSelect}}, append(slices.Clone(q), q...), wideQuery(61), deepQuery(13), askRange(0, q), askRange(maxTime+1, q), askSub(5, 6, q)} {
		if got := checkNeeds(t, bad, 0, 5); len(got) > 0 {
			t.Errorf("not good %d: %v", i, got)
		}
	}
	// As many matchers as a selection has, and its name: all of them stay good; as many selections as a question has.
	full := checkNeeds(t, askSelect("m", manyMatchers(9)...), 5, 5)
	if len(full) != 1 || len(full[0].Match) != 10 || !impl.GoodMatchers(full[0].Match) {
		t.Errorf("10 matchers: %v", full)
	}
	if got := checkNeeds(t, askSelect("", manyMatchers(9)...), 5, 5); len(got) != 1 || len(got[0].Match) != 9 {
		t.Errorf("9 matchers: %v", got)
	}
	if got := checkNeeds(t, wideQuery(59), 5, 5); len(got) != 30 {
		t.Errorf("59 nodes: %d", len(got))
	}
	// As far down as can be, all of it as great as can be.
	far := q
	for range 5 {
		far = askCall("sum_over", asked(askSub(maxTime, 1, far), func(x *impl.Query) { x.Offset = maxTime }))
	}
	if got := checkNeeds(t, far, 0, maxTime); len(got) > 0 {
		t.Errorf("far down: %v", got)
	}
}

func TestNeedsAtRandom(t *testing.T) {
	a := newEvalAsker(172)
	told := 0
	for range 10000 {
		q := oneOf(a.Rand, a.question, a.asker.question)()
		from := oneOf(a.Rand, a.Intn(1000), a.asker.time())
		told += len(checkNeeds(t, q, from, oneOf(a.Rand, from, from+a.Intn(100), a.asker.time())))
	}
	if told < 7000 {
		t.Errorf("only %d needs", told)
	}
}

func trimModel(list []impl.Series, needs []impl.Need) []impl.Series {
	if !goodSeriesModel(list) || len(needs) > 60 || slices.ContainsFunc(needs, func(x impl.Need) bool { return !goodMatchersModel(x.Match) }) {
		return nil
	}
	var out []impl.Series
	for _, s := range list {
		left := impl.Series{Labels: s.Labels}
		for _, x := range s.Samples {
			if slices.ContainsFunc(needs, func(n impl.Need) bool { return isWithin(x.Time, n.From, n.To) && fitsAllModel(n.Match, s.Labels) }) {
				left.Samples = append(left.Samples, x)
			}
		}
		if left.Samples != nil {
			out = append(out, left)
		}
	}
	return out
}

func checkTrim(t *testing.T, list []impl.Series, needs []impl.Need) []impl.Series {
	t.Helper()
	listArg, listKept := guarded(list)
	needsArg, needsKept := guarded(needs)
	got, want := impl.TrimSeries(listArg, needsArg), trimModel(list, needs)
	if !same(got, want) || !listKept() || !needsKept() {
		t.Fatalf("%s trimmed by %s is\n%s, not\n%s", shortly(list), shortly(needs), shortly(got), shortly(want))
	}
	checkOwn(t, got, listArg, needsArg)
	return got
}

func TestTrimmedSeries(t *testing.T) {
	list := plainSeries("m{a=1} 0:1 10:2 20:end 30:4; m{a=2} 5:5 25:6; n 10:7; z 1000000000000:8")
	need := func(match string, from int, to int) impl.Need {
		m, ok := impl.ReadMatchers(match)
		if !ok {
			t.Fatal(match)
		}
		return impl.Need{Match: m, From: from, To: to}
	}
	all := rowsText(list)
	for _, c := range []struct {
		needs []impl.Need
		want  string
	}{
		{nil, ""}, {[]impl.Need{}, ""}, {[]impl.Need{need("{}", 0, maxTime)}, all}, {[]impl.Need{need("{}", math.MinInt, math.MaxInt)}, all}, {[]impl.Need{need("{}", 1, 10)}, "m{a=1} 10:2; m{a=2} 5:5; n 10:7"}, {[]impl.Need{need("{}", 10, 10)}, "m{a=1} 10:2; n 10:7"}, {[]impl.Need{need("{}", 11, 29)}, "m{a=1} 20:-9223372036854775808; m{a=2} 25:6"}, {[]impl.Need{need("{}", 31, 99)}, ""}, {[]impl.Need{need("{}", -5, -1)}, ""}, {[]impl.Need{need("{}", -5, 0)}, "m{a=1} 0:1"}, {[]impl.Need{need("{}", maxTime, maxTime)}, "z 1000000000000:8"},
		{[]impl.Need{need(`{_name="m"}`, 0, 10)}, "m{a=1} 0:1 10:2; m{a=2} 5:5"}, {[]impl.Need{need(`{_name="m",a="2"}`, 0, 99)}, "m{a=2} 5:5 25:6"}, {[]impl.Need{need(`{a=""}`, 0, 99)}, "n 10:7"}, {[]impl.Need{need(`{_name="none"}`, 0, 99)}, ""}, {[]impl.Need{need(`{a=~"1|2"}`, 25, 30)}, "m{a=1} 30:4; m{a=2} 25:6"},
		// Several: what one covers stays, whatever the others do.
		{[]impl.Need{need(`{_name="m"}`, 0, 10), need(`{_name="m"}`, 5, 25)}, "m{a=1} 0:1 10:2 20:-9223372036854775808; m{a=2} 5:5 25:6"}, {[]impl.Need{need(`{_name="m"}`, 30, 30), need(`{_name="m"}`, 0, 0)}, "m{a=1} 0:1 30:4"}, {[]impl.Need{need(`{_name="n"}`, 0, 10), need(`{a="1"}`, 0, 5), need(`{_name="m"}`, 20, 30)}, "m{a=1} 0:1 20:-9223372036854775808 30:4; m{a=2} 25:6; n 10:7"}, {[]impl.Need{need(`{_name="none"}`, 0, 99), need("{}", 10, 10), need("{}", 90, 99)}, "m{a=1} 10:2; n 10:7"}, {[]impl.Need{need("{}", 10, 10), need("{}", 10, 10)}, "m{a=1} 10:2; n 10:7"},
		// From above To covers nothing.
		{[]impl.Need{need("{}", 10, 9)}, ""}, {[]impl.Need{need("{}", 30, 0)}, ""}, {[]impl.Need{need("{}", math.MaxInt, math.MinInt)}, ""}, {[]impl.Need{need("{}", 30, 0), need("{}", 5, 5)}, "m{a=2} 5:5"},
	} {
		if got := rowsText(checkTrim(t, list, c.needs)); got != c.want {
			t.Errorf("by %s:\n%s, not\n%s", needsText(c.needs), got, c.want)
		}
	}
	for i, m := range badMatchers() {
		for _, needs := range [][]impl.Need{{{Match: m, To: 99}}, {{Match: m, From: 1}}, {{To: 99}, {Match: m, To: 99}}, {{Match: m}, {To: 99}}} {
			if got := checkTrim(t, list, needs); len(got) > 0 {
				t.Errorf("matchers %d: %v", i, got)
			}
		}
	}
	for i, l := range badSeries() {
		if got := checkTrim(t, l, []impl.Need{{To: maxTime}}); len(got) > 0 {
			t.Errorf("list %d: %v", i, shortly(got))
		}
	}
	for _, n := range []int{0, 1, 59, 60, 61, 1000} {
		needs := append(slices.Repeat([]impl.Need{need(`{_name="none"}`, 0, 99)}, n), need("{}", 0, maxTime))
		for _, c := range [][]impl.Need{needs[1:], needs[:n]} {
			got := rowsText(checkTrim(t, list, c))
			if want := len(c) > 0 && len(c) <= 60 && len(c[len(c)-1].Match) == 0; (got == all) != want {
				t.Errorf("%d needs: %s", len(c), got)
			}
		}
	}
	if got := checkTrim(t, nil, []impl.Need{{To: 99}}); len(got) > 0 {
		t.Errorf("of nothing: %v", got)
	}
	if got := checkTrim(t, []impl.Series{series("m", steadySamples(2000, 0, 1, 3)...)}, []impl.Need{{From: 1, To: 1998}}); len(got) != 1 || len(got[0].Samples) != 1998 {
		t.Errorf("of 2000 samples %s are left", shortly(got))
	}
	if got := checkTrim(t, manySeries(200), []impl.Need{{From: 1, To: 198}}); len(got) != 198 {
		t.Errorf("of 200 series %d are left", len(got))
	}
	if got := checkTrim(t, []impl.Series{{Labels: list[0].Labels, Samples: samplesAt(7, 5)}}, []impl.Need{{Match: manyMatchers(10), To: 9}}); len(got) > 0 {
		t.Errorf("10 matchers: %v", got)
	}
	if got := checkTrim(t, list, []impl.Need{{To: 99}, {Match: manyMatchers(11), To: 99}}); len(got) > 0 {
		t.Errorf("11 matchers: %v", got)
	}
}

func samplesIn(list []impl.Series) int {
	n := 0
	for _, s := range list {
		n += len(s.Samples)
	}
	return n
}

// Promise 17: a question says of what its needs leave what it says of all series, at every time that they were told for.
func TestTrimmedSeriesSayTheSame(t *testing.T) {
	a := newEvalAsker(173)
	gone, left, faults := 0, 0, 0
	for range 4000 {
		list, q := a.list(), a.question()
		from := a.Intn(600)
		to := from + oneOf(a.Rand, 0, a.Intn(10), a.Intn(100))
		less := checkTrim(t, list, checkNeeds(t, q, from, to))
		gone += samplesIn(list) - samplesIn(less)
		left += samplesIn(less)
		for _, time := range []int{from, to, from + a.Intn(to-from+1), from + a.Intn(to-from+1)} {
			one, two := impl.EvalQuery(list, q, time), impl.EvalQuery(less, q, time)
			if !same(one, two) {
				t.Fatalf("%s at %d says %s, trimmed for %d..%d %s", impl.QueryText(q), time, evalText(one), from, to, evalText(two))
			}
			faults += min(1, one.Err)
		}
		step := 1 + a.Intn(20)
		if one, two := impl.EvalRange(list, q, from, to, step), impl.EvalRange(less, q, from, to, step); !same(one, two) {
			t.Fatalf("%s from %d to %d by %d says %s, trimmed %s", impl.QueryText(q), from, to, step, shortly(one), shortly(two))
		}
	}
	if gone < 10000 || left < 10000 || faults < 500 {
		t.Errorf("%d samples are gone, %d left, %d faults", gone, left, faults)
	}
}

// Nothing that is needed is left out at the edges: a sample at the very first and the very last time that a selection looks at.
func TestNeedsAtTheirEdges(t *testing.T) {
	for _, ask := range []string{"m", "sum_over(m[50])", "sum_over(m[1])", "sum_over(m[50] offset 7)", "m offset 33", "sum_over(m[40:10])", "sum_over(m[40:1])", "sum_over(sum_over(m[5])[40:1])", "sum_over(sum_over(m[5:1] offset 2)[40:1] offset 3)", "m @ 700", "sum_over(m[50] @ 700 offset 3)", "sum_over(m[40:10] @ 705)"} {
		q := plainQuery(ask)
		for _, c := range [][2]int{{1000, 1000}, {1000, 1003}} {
			need := checkNeeds(t, q, c[0], c[1])[0]
			for at := need.From - 3; at <= need.To+3; at++ {
				list := []impl.Series{series("m", impl.Sample{Time: at, Value: 9})}
				said := 0
				for time := c[0]; time <= c[1]; time++ {
					said += len(impl.EvalQuery(list, q, time).Items)
				}
				if kept := len(checkTrim(t, list, []impl.Need{need})); said > 0 && kept == 0 || kept != 0 != isWithin(at, need.From, need.To) {
					t.Fatalf("%s in %v with a sample at %d says %d, %d kept of %d..%d", ask, c, at, said, kept, need.From, need.To)
				}
				// By these the first and the last time are needed indeed.
				if ask != "sum_over(m[40:10])" && ask != "sum_over(m[40:10] @ 705)" && (at == need.From || at == need.To) && said == 0 {
					t.Errorf("%s in %v does not need %d", ask, c, at)
				}
			}
		}
	}
}

func splitModel(from int, to int, step int, every int) []impl.Span {
	steps, ok := stepsModel(from, to, step)
	if !ok || !isWithin(every, 1, maxTime) {
		return nil
	}
	spans := map[int]impl.Span{}
	for _, time := range slices.Backward(steps) {
		if x, there := spans[time/every]; there {
			spans[time/every] = impl.Span{From: time, To: x.To}
		} else {
			spans[time/every] = impl.Span{From: time, To: time}
		}
	}
	var out []impl.Span
	for _, key := range slices.Sorted(maps.Keys(spans)) {
		out = append(out, spans[key])
	}
	return out
}

func checkSpans(t *testing.T, from int, to int, step int, every int) []impl.Span {
	t.Helper()
	got, want := impl.SplitSpans(from, to, step, every), splitModel(from, to, step, every)
	if !same(got, want) {
		t.Fatalf("%d to %d by %d, every %d: %v, not %v", from, to, step, every, got, want)
	}
	return got
}

func TestSpansOfSteps(t *testing.T) {
	for _, c := range []struct {
		from, to, step, every int
		want                  string
	}{
		{5, 40, 10, 20, "[{5 15} {25 35}]"}, {0, 4, 1, 1, "[{0 0} {1 1} {2 2} {3 3} {4 4}]"}, {0, 40, 10, 1, "[{0 0} {10 10} {20 20} {30 30} {40 40}]"}, {0, 40, 10, 10, "[{0 0} {10 10} {20 20} {30 30} {40 40}]"}, {0, 40, 10, 20, "[{0 10} {20 30} {40 40}]"}, {9, 49, 10, 20, "[{9 19} {29 39} {49 49}]"}, {10, 50, 10, 20, "[{10 10} {20 30} {40 50}]"}, {0, 40, 10, 40, "[{0 30} {40 40}]"}, {0, 40, 10, 41, "[{0 40}]"}, {0, 40, 10, 100, "[{0 40}]"}, {0, 49, 10, 41, "[{0 40}]"}, {0, 40, 10, maxTime, "[{0 40}]"}, {90, 110, 10, 100, "[{90 90} {100 110}]"}, {0, 100, 30, 7, "[{0 0} {30 30} {60 60} {90 90}]"}, {0, 100, 30, 50, "[{0 30} {60 90}]"}, {0, 20, 4, 7, "[{0 4} {8 12} {16 20}]"},
		{7, 7, 1, 3, "[{7 7}]"}, {7, 7, maxTime, maxTime, "[{7 7}]"}, {0, maxTime, maxTime, maxTime, "[{0 0} {1000000000000 1000000000000}]"}, {maxTime, maxTime, 1, 1, "[{1000000000000 1000000000000}]"}, {0, maxTime - 1, maxTime - 1, maxTime, "[{0 999999999999}]"},
		{0, 499, 1, 100, "[{0 99} {100 199} {200 299} {300 399} {400 499}]"}, {7, 506, 1, 500, "[{7 499} {500 506}]"},
		// What is not as said.
		{0, 500, 1, 100, "[]"}, {7, 507, 1, 500, "[]"}, {0, 40, 10, 0, "[]"}, {0, 40, 10, -1, "[]"}, {0, 40, 10, maxTime + 1, "[]"}, {0, 40, 10, math.MinInt, "[]"}, {0, 40, 10, math.MaxInt, "[]"}, {0, 40, 0, 10, "[]"}, {0, 40, -1, 10, "[]"}, {0, 40, maxTime + 1, 10, "[]"}, {0, 40, math.MaxInt, 10, "[]"}, {41, 40, 1, 10, "[]"}, {-1, 40, 1, 10, "[]"}, {-5, -1, 1, 10, "[]"}, {0, maxTime + 1, maxTime, 10, "[]"}, {math.MinInt, math.MaxInt, 1, 1, "[]"}, {maxTime + 1, maxTime + 1, 1, 1, "[]"},
	} {
		if got := fmt.Sprint(checkSpans(t, c.from, c.to, c.step, c.every)); got != c.want {
			t.Errorf("%d to %d by %d, every %d: %s, not %s", c.from, c.to, c.step, c.every, got, c.want)
		}
	}
	if got := checkSpans(t, 0, 499, 1, 1); len(got) != 500 {
		t.Errorf("500 steps: %d spans", len(got))
	}
	a := newEvalAsker(174)
	for range 5000 {
		from, step := a.Intn(1000), 1+a.Intn(30)
		got := checkSpans(t, from, from+a.Intn(step*520), step, 1+a.Intn(300))
		checkOwn(t, got)
	}
}

// rowBook has what was said at times, by the labels' text.
type rowBook struct {
	labels map[string][]impl.Label
	values map[string]map[int]int
}

func newRowBook() rowBook {
	return rowBook{labels: map[string][]impl.Label{}, values: map[string]map[int]int{}}
}

func (b rowBook) write(rows []impl.Series) {
	for _, row := range rows {
		text := labelsTextModel(row.Labels)
		b.labels[text] = row.Labels
		if b.values[text] == nil {
			b.values[text] = map[int]int{}
		}
		for _, s := range row.Samples {
			b.values[text][s.Time] = s.Value
		}
	}
}

// at tells the rows of some times.
func (b rowBook) at(times []int) []impl.Series {
	values := map[string]map[int]int{}
	for text, said := range b.values {
		for _, time := range times {
			value, there := said[time]
			if there && values[text] == nil {
				values[text] = map[int]int{}
			}
			if there {
				values[text][time] = value
			}
		}
	}
	return seriesOf(b.labels, values)
}

func evalSplitModel(list []impl.Series, q []impl.Query, from int, to int, step int, every int) impl.RangeRes {
	steps, _ := stepsModel(from, to, step)
	spans := splitModel(from, to, step, every)
	if len(spans) == 0 {
		return impl.RangeRes{Err: impl.ErrAsked}
	}
	book := newRowBook()
	for _, span := range spans {
		said := evalRangeModel(list, q, span.From, span.To, step)
		if said.Err != 0 {
			return said
		}
		book.write(said.Rows)
	}
	return impl.RangeRes{Rows: book.at(steps)}
}

func checkEvalSplit(t *testing.T, list []impl.Series, q []impl.Query, from int, to int, step int, every int) impl.RangeRes {
	t.Helper()
	listArg, listKept := guarded(list)
	qArg, qKept := guarded(q)
	got, want := impl.EvalSplit(listArg, qArg, from, to, step, every), evalSplitModel(list, q, from, to, step, every)
	if !same(got, want) || !listKept() || !qKept() {
		t.Fatalf("%s from %d to %d by %d, every %d, of %s:\n%s, not\n%s", shortly(longText(q)), from, to, step, every, shortly(list), shortly(got), shortly(want))
	}
	checkOwn(t, got, listArg, qArg)
	return got
}

func TestSplitAnswers(t *testing.T) {
	list := plainSeries("m{a=1} 0:1 10:2 20:3; m{a=2} 10:5 20:end 30:6; n 0:4")
	for _, c := range []struct {
		ask                   string
		from, to, step, every int
		want                  string
	}{
		{"m", 0, 30, 10, 10, "m{a=1} 0:1 10:2 20:3 30:3; m{a=2} 10:5 30:6"}, {"m", 0, 30, 10, 1, "m{a=1} 0:1 10:2 20:3 30:3; m{a=2} 10:5 30:6"}, {"m", 0, 30, 10, 20, "m{a=1} 0:1 10:2 20:3 30:3; m{a=2} 10:5 30:6"}, {"m", 0, 30, 10, maxTime, "m{a=1} 0:1 10:2 20:3 30:3; m{a=2} 10:5 30:6"}, {`m{a="2"}`, 0, 30, 10, 10, "m{a=2} 10:5 30:6"}, {`m{a="2"}`, 15, 15, 10, 10, "m{a=2} 15:5"}, {"none", 0, 30, 10, 10, ""}, {"time()", 0, 30, 10, 20, "{} 0:0 10:10 20:20 30:30"}, {"5", 3, 9, 3, 4, "{} 3:5 6:5 9:5"},
		// Of rows that begin late those with the lesser labels stand first all the same; names that are there now and then.
		{"topk(1, m)", 0, 30, 10, 10, "m{a=1} 0:1 20:3; m{a=2} 10:5 30:6"}, {"m or n", 0, 10, 10, 10, "m{a=1} 0:1 10:2; m{a=2} 10:5; n 0:4 10:4"}, {"(n offset 20) or m", 10, 20, 10, 10, "m{a=1} 10:2 20:3; m{a=2} 10:5; n 20:4"}, {"sum_over(m[15])", 0, 30, 10, 20, "{a=1} 0:1 10:3 20:5 30:3; {a=2} 10:5 20:5 30:6"},
	} {
		q := plainQuery(c.ask)
		got := checkEvalSplit(t, list, q, c.from, c.to, c.step, c.every)
		if text := rowsText(got.Rows); got.Err != 0 || text != c.want {
			t.Errorf("%s from %d to %d by %d, every %d: Err %d, %s, not %s", c.ask, c.from, c.to, c.step, c.every, got.Err, text, c.want)
		}
		if whole := impl.EvalRange(list, q, c.from, c.to, c.step); !same(got, whole) {
			t.Errorf("%s from %d to %d by %d, every %d, is not what it says at once", c.ask, c.from, c.to, c.step, c.every)
		}
	}
	for _, c := range []struct {
		ask                   string
		from, to, step, every int
		err                   int
	}{
		// The first Err, in the first span, in a later one, in several.
		{"1 / (time() - 5)", 0, 4, 1, 2, 0}, {"1 / (time() - 5)", 0, 5, 1, 2, 5}, {"1 / (time() - 5)", 0, 100, 1, 1, 5}, {"1 / (time() - 5)", 0, 100, 1, maxTime, 5}, {"1 / (time() - 5)", 6, 100, 1, 7, 0}, {"vector(1 / (time() - 5)) + sum(vector(1) + on() m)", 0, 20, 1, 5, 5}, {"vector(1 / (time() - 15)) + sum(vector(1) + on() m)", 0, 20, 1, 5, 4}, {"vector(1 / (time() - 15)) + sum(vector(1) + on() m)", 0, 20, 1, 1, 4}, {"vector(1 / (time() - 15)) + sum(vector(1) + on() m)", 0, 20, 1, 100, 4}, {"sum_over(1[2000:1] @ 5000)", 0, 20, 1, 100, 7},
		{"m", 0, 499, 1, 1, 0}, {"m", 0, 499, 1, 77, 0}, {"m", 0, 500, 1, 77, 1}, {"m", 0, 10, 1, 0, 1}, {"m", 0, 10, 1, -1, 1}, {"m", 0, 10, 1, maxTime, 0}, {"m", 0, 10, 1, maxTime + 1, 1}, {"m", 0, 10, 0, 5, 1}, {"m", 0, 10, maxTime + 1, 5, 1}, {"m", 10, 9, 1, 5, 1}, {"m", -1, 9, 1, 5, 1}, {"m", 0, maxTime + 1, maxTime, 5, 1}, {"m", math.MinInt, math.MaxInt, 1, 1, 1}, {`"x"`, 0, 10, 1, 5, 1}, {"m[5]", 0, 10, 1, 5, 1}, {"m[5:1]", 0, 10, 1, 5, 1}, {"1 == 1", 0, 10, 1, 5, 1}, {"1 / 0", 0, 10, 1, 0, 1}, {"1 / 0", 0, 10, 1, 1, 5},
	} {
		if got := checkEvalSplit(t, list, plainQuery(c.ask), c.from, c.to, c.step, c.every); got.Err != c.err {
			t.Errorf("%s from %d to %d by %d, every %d: Err %d, not %d", c.ask, c.from, c.to, c.step, c.every, got.Err, c.err)
		}
	}
	for i, l := range badSeries() {
		if got := checkEvalSplit(t, l, plainQuery("5"), 0, 10, 10, 10); !same(got, impl.RangeRes{Err: impl.ErrAsked}) {
			t.Errorf("list %d: %+v", i, got)
		}
	}
	for i, q := range [][]impl.Query{nil, {{}}, wideQuery(61), deepQuery(13), append(askNum(1), askNum(2)...)} {
		if got := checkEvalSplit(t, list, q, 0, 10, 10, 10); !same(got, impl.RangeRes{Err: impl.ErrAsked}) {
			t.Errorf("question %d: %+v", i, got)
		}
	}
}

// What is touched is counted for each span alone.
func TestSplitAnswersCountBySpans(t *testing.T) {
	list, q := presentSeries(199, 600), plainQuery("m")
	for _, c := range []struct {
		from, to, every int
		err             int
	}{
		// 250 steps count just as much as may be.
		{0, 249, maxTime, 0}, {0, 250, maxTime, 2}, {0, 499, maxTime, 2}, {0, 499, 250, 0}, {0, 499, 251, 2}, {0, 499, 249, 0}, {1, 500, 250, 0}, {0, 499, 1, 0}, {1, 300, 251, 0}, {0, 499, 400, 2}, {251, 550, 300, 2}, {100, 399, 150, 0},
	} {
		if got := impl.EvalSplit(list, q, c.from, c.to, 1, c.every); got.Err != c.err || c.err == 0 && samplesIn(got.Rows) != 199*(c.to-c.from+1) {
			t.Errorf("%d to %d, every %d: Err %d, %d samples", c.from, c.to, c.every, got.Err, samplesIn(got.Rows))
		}
	}
	// ErrTouched counts where it comes ahead of another one.
	late := plainQuery("m + on(i) group_left() vector(1 / (time() - 400))")
	if got := impl.EvalSplit(list, late, 0, 499, 1, 300); got.Err != impl.ErrTouched {
		t.Errorf("touched first: %d", got.Err)
	}
	if got := impl.EvalSplit(list, late, 0, 499, 1, 100); got.Err != impl.ErrZero {
		t.Errorf("by 0 first: %d", got.Err)
	}
}

// Promise 17: steps split by any width of time say together what they say at once.
func TestSplitStepsSayTheSame(t *testing.T) {
	a := newEvalAsker(175)
	rows, faults := 0, 0
	for range 3000 {
		list, q := a.list(), a.question()
		from, step := a.Intn(500), 1+a.Intn(40)
		to := from + a.Intn(10*step)
		got := checkEvalSplit(t, list, q, from, to, step, oneOf(a.Rand, 1, step, 1+a.Intn(3*step), 1+a.Intn(500), maxTime))
		if want := impl.EvalRange(list, q, from, to, step); !same(got, want) && want.Err != impl.ErrTouched {
			t.Fatalf("%s from %d to %d by %d: %s, not %s", impl.QueryText(q), from, to, step, shortly(got), shortly(want))
		}
		rows += len(got.Rows)
		faults += min(1, got.Err)
	}
	if rows < 2000 || faults < 300 {
		t.Errorf("only %d rows and %d faults", rows, faults)
	}
}

// bySeriesModel goes behind what is by series at the beginning of rows; false where there is no such thing.
func bySeriesModel(q []impl.Query) ([]impl.Query, bool) {
	if len(q) == 0 {
		return nil, false
	}
	x, rest := q[0], q[1:]
	switch {
	case x.Kind == impl.QSelect:
		return rest, x.Text != ""
	case x.Kind == impl.QNeg, x.Kind == impl.QCall && x.Text == "abs" && x.Kids == 1 && rest[0].Kind != impl.QRange:
		return bySeriesModel(rest)
	case x.Kind == impl.QCall && x.Kids == 1 && rest[0].Kind == impl.QRange:
		return rest[2:], rest[1].Text != "" && kindModel(q[:3]) != ""
	case x.Kind == impl.QCall && x.Kids == 1 && x.Text == "timestamp" && rest[0].Kind == impl.QSelect:
		return rest[1:], rest[0].Text != ""
	case x.Kind == impl.QOp && x.Op <= impl.OpMost && x.By == impl.ByNone:
		if _, n := constantModel(rest, 0); n > 0 {
			return bySeriesModel(rest[n:])
		}
		rest, ok := bySeriesModel(rest)
		_, n := constantModel(rest, 0)
		return rest[n:], ok && n > 0
	}
	return rest, false
}

func shardableModel(q []impl.Query) bool {
	if !goodQueryModel(q) || q[0].Kind != impl.QAgg || !slices.Contains([]int{impl.AggSum, impl.AggMin, impl.AggMax, impl.AggCount}, q[0].Op) {
		return false
	}
	_, ok := bySeriesModel(q[1:])
	return ok && kindModel(q) != ""
}

func checkShardable(t *testing.T, q []impl.Query) bool {
	t.Helper()
	arg, kept := guarded(q)
	got := impl.Shardable(arg)
	if got != shardableModel(q) || !kept() {
		t.Fatalf("Shardable of %s: %v", shortly(longText(q)), got)
	}
	return got
}

func TestShardableQuestions(t *testing.T) {
	// What is by series, and what is nearly so, below each of the four.
	kids := map[string]bool{
		"m": true, `m{a="1"}`: true, "m offset 5": true, "m @ 5": true, `{a="1"}`: false, "-m": true, "--m": true, `-{a="1"}`: false,
		"m + 1": true, "m - 1": true, "m * 1": true, "m / 1": true, "m % 1": true, "m == 1": true, "m != 1": true, "m > 1": true, "m < 1": true, "m >= 1": true, "m <= 1": true, "m > bool 1": true, "1 + m": true, "1 > m": true, "0 == bool m": true, "m / 0": true, "m + -1": true, "-1 + m": true, "m + 9223372036854775807": true, "m * 2 + 1": true, "2 * (1 - m) > 3": true, "-(m + 1)": true,
		"m + -0": false, "m + --1": false, "m + (1 + 2)": false, "m + time()": false, "m + scalar(m)": false, "time() + m": false, "m + m": false, "m + vector(1)": false, "m + n": false, "m > m": false, `{a="1"} + 1`: false, "1 + -(0) * m": false, "m + on() m": false, "m + ignoring() m": false, "m + on(a) 1": false, "m + ignoring() 1": false, "m > bool on() 1": false,
		"m and m": false, "m or m": false, "m unless m": false, "m and 1": false, "1 or m": false, "m unless -1": false,
		"abs(m)": true, "abs(-m)": true, "abs(m + 1)": true, "abs(abs(rate(m[5])))": true, `abs({a="1"})`: false, "abs(m + m)": false, "abs(m, m)": false, "abs()": false, "abs(m[5])": false, "abs(1)": false, "abs(m, 1)": false,
		"timestamp(m)": true, "timestamp(m offset 5)": true, `timestamp({a="1"})`: false, "timestamp(-m)": false, "timestamp(timestamp(m))": false, "timestamp(abs(m))": false, "timestamp(rate(m[5]))": false, "timestamp(m + 1)": false, "timestamp(m[5])": false, "timestamp(m, m)": false, "abs(timestamp(m))": true, "-timestamp(m) + 1": true,
		"rate(m[5])": true, "rate(m[5] offset 5 @ 7)": true, `rate({a="1"}[5])`: false, "rate((m)[5:1])": false, "rate(m)": false, "rate(m[5], m[5])": false, "rate()": false, "rate(-m)": false, "-rate(m[5]) * 2": true, "predict(m[5], 1)": false, "quantile_over(500, m[5])": false, "sum_over((m + 1)[5:1])": false, "rate(rate(m[5]))": false, "abs((m)[5:1])": false,
		"absent(m)": false, "scalar(m)": false, "vector(1)": false, "clamp(m, 1, 2)": false, "hist_quantile(500, m)": false, `label_set(m, "a", "b", "c", "*")`: false, `label_join(m, "a", "b", "c")`: false, "sum(m)": false, "topk(1, m)": false, "1": false, "-1": false, "time()": false, `"x"`: false, "m[5]": false, "(m)[5:1]": false, "-(1)": false, "absent(m[5])": false, "vector(m[5])": false, "scalar(m[5])": false, "time(m[5])": false, "clamp(m[5])": false, "predict(m[5])": false, "label_set(m[5])": false, "hist_quantile(m[5])": false, "quantile_over(m[5])": false, "label_join(m[5])": false, "time(m)": false, "rate(1)": false,
	}
	for _, name := range strings.Fields("avg_over changes count_over delta last_over max_over min_over rate resets rise sum_over") {
		kids[name+"(m[5])"] = true
		kids[name+"(m)"] = false
	}
	for kid, want := range kids {
		for op := impl.AggSum; op <= impl.AggQuantile; op++ {
			of, can := [][]impl.Query{plainQuery(kid)}, want && slices.Contains([]int{1, 2, 3, 5}, op)
			if op > impl.AggCount {
				of = append([][]impl.Query{askNum(5)}, of...)
			}
			for by := range 3 {
				q := asked(askAgg(op, of...), func(x *impl.Query) { x.By = by })
				if checkShardable(t, q) != can {
					t.Errorf("%s: %v", impl.QueryText(q), !can)
				}
				if by > 0 && checkShardable(t, asked(q, func(x *impl.Query) { x.Names = []string{"_name", "a"} })) != can {
					t.Errorf("%s with names: %v", impl.QueryText(q), !can)
				}
				// Only the top is asked for.
				if checkShardable(t, askNeg(q)) || checkShardable(t, askAgg(impl.AggSum, q)) {
					t.Errorf("above %s", impl.QueryText(q))
				}
			}
		}
		if checkShardable(t, plainQuery(kid)) != (kid == "sum(m)") {
			t.Errorf("%s alone", kid)
		}
	}
	sum := func(q []impl.Query) []impl.Query { return askAgg(impl.AggSum, q) }
	for i, q := range [][]impl.Query{nil, {{}}, askAgg(0, askSelect("m")), askAgg(9, askSelect("m")), askAgg(impl.AggSum), askAgg(impl.AggSum, askSelect("m"), askSelect("m")), askAgg(impl.AggSum, askNum(1), askSelect("m")), append(sum(askSelect("m")), askNum(1)...), sum(askOp(impl.OpAdd, askSelect("m"), askNum(-1))), sum(askSelect("9")), sum(askRange(5, askSelect("m"))), sum(deepQuery(12)), sum(asked(askSelect("m"), func(x *impl.Query) { x.Offset = -1 })), asked(sum(askSelect("m")), func(x *impl.Query) { x.By = 3 }), asked(sum(askSelect("m")), func(x *impl.Query) { x.Names = []string{"a"} })} {
		if checkShardable(t, q) {
			t.Errorf("not good %d: %v", i, q)
		}
	}
	if !checkShardable(t, sum(deepQuery(11))) {
		t.Error("12 within each other")
	}
}

// shardedModel asks one shard after the other, and puts together what they say by hand.
func shardedModel(list []impl.Series, q []impl.Query, time int, shards int) impl.EvalRes {
	if !isWithin(shards, 1, 50) {
		return impl.EvalRes{Err: impl.ErrAsked}
	}
	whole := evalQueryModel(list, q, time)
	if !shardableModel(q) || whole.Err == impl.ErrAsked {
		return whole
	}
	labels, values := map[string]modelLabels{}, map[string]int{}
	for shard := range shards {
		mine := slices.DeleteFunc(slices.Clone(list), func(s impl.Series) bool { return slowMix([]byte(labelsTextModel(s.Labels)))%shards != shard })
		said := evalQueryModel(mine, q, time)
		if said.Err != 0 {
			return said
		}
		for _, x := range said.Items {
			text := labelsTextModel(x.Labels)
			was, there := values[text]
			switch {
			case !there:
				values[text] = x.Value
			case q[0].Op == impl.AggMin:
				values[text] = min(was, x.Value)
			case q[0].Op == impl.AggMax:
				values[text] = max(was, x.Value)
			default:
				values[text] = was + x.Value
			}
			labels[text] = toModel(x.Labels)
		}
	}
	var items []modelItem
	for text, value := range values {
		items = append(items, modelItem{labels: labels[text], value: value})
	}
	var out impl.EvalRes
	for _, x := range sortedItems(items) {
		out.Items = append(out.Items, impl.Item{Labels: x.labels.list(), Value: x.value})
	}
	return out
}

func checkSharded(t *testing.T, list []impl.Series, q []impl.Query, time int, shards int) impl.EvalRes {
	t.Helper()
	listArg, listKept := guarded(list)
	qArg, qKept := guarded(q)
	got, want := impl.EvalSharded(listArg, qArg, time, shards), shardedModel(list, q, time, shards)
	if !same(got, want) || !listKept() || !qKept() {
		t.Fatalf("%s at %d in %d shards of %s:\n%s, not\n%s", shortly(longText(q)), time, shards, shortly(list), shortly(evalText(got)), shortly(evalText(want)))
	}
	checkOwn(t, got, listArg, qArg)
	return got
}

// shardSeries are n series m with a sample at 10, in groups by a and b.
func shardSeries(n int) []impl.Series {
	var out []impl.Series
	for i := range n {
		l := labelsOf("_name", "m", "a", fmt.Sprint(i%3), "b", fmt.Sprint(i%2), "i", fmt.Sprint(1000+i))
		out = append(out, impl.Series{Labels: l, Samples: []impl.Sample{{Time: 5, Value: i}, {Time: 10, Value: 3*i - 50}}})
	}
	return seriesList(out...)
}

func TestShardedAnswers(t *testing.T) {
	list := shardSeries(60)
	// What is said does not hang on how many shards there are; with 60 series each of the few shards has some.
	for ask, want := range map[string]string{
		"sum(m)": "{} 2310", "count(m)": "{} 60", "min(m)": "{} -50", "max(m)": "{} 127", "sum by (b)(m)": "{b=0} 1110; {b=1} 1200", "count by (a)(m)": "{a=0} 20; {a=1} 20; {a=2} 20", "min by (a, b)(m)": "{a=0,b=0} -50; {a=0,b=1} -41; {a=1,b=0} -38; {a=1,b=1} -47; {a=2,b=0} -44; {a=2,b=1} -35", "max without (i, a)(m)": "{b=0} 124; {b=1} 127", "max by (none)(m)": "{} 127", "sum by (_name)(m)": "m 2310", "sum(none)": "", "count(m > 1000)": "", "count(m > 100)": "{} 9", "sum(-m * 2)": "{} -4620", "min(abs(m))": "{} 1", "max(timestamp(m))": "{} 10", "sum by (b)(delta(m[10]))": "{b=0} 240; {b=1} 300", "count(rate(m[10] offset 1))": "", "sum(rise(m[9]))": "{} 840", "sum by (_name)(last_over(m[9]))": "m 2310", "sum(m @ 5)": "{} 1770", "count(m @ 4)": "", "max(m offset 5)": "{} 59", "count(100 / m)": "{} 60", "sum(m == bool 1)": "{} 1",
	} {
		q := plainQuery(ask)
		if !impl.Shardable(q) {
			t.Errorf("%s is not Shardable", ask)
		}
		for _, shards := range []int{1, 2, 3, 7, 49, 50} {
			if got := checkSharded(t, list, q, 10, shards); got.Err != 0 || evalText(got) != want {
				t.Errorf("%s in %d shards: %s, not %s", ask, shards, evalText(got), want)
			}
		}
	}
	// Others are asked at once.
	for ask, want := range map[string]string{"avg(m)": "{} 38", "topk(1, m)": "m{a=2,b=1,i=1059} 127", "quantile(500, m)": "{} 38", "sum(m) + sum(m)": "{} 4620", `count({a="1"})`: "{} 20", "5": "5", "time()": "10", `"x"`: `"x"`, "sum(m + m)": "{} 4620", "sum(rise((m)[9:1]))": "{} 840", `m{i="1000"}[5]`: "m{a=0,b=0,i=1000} 10:-50", "1 / 0": "err 5", "m + on() m": "err 4"} {
		q := plainQuery(ask)
		if impl.Shardable(q) {
			t.Errorf("%s is Shardable", ask)
		}
		for _, shards := range []int{1, 2, 50} {
			if got := checkSharded(t, list, q, 10, shards); evalText(got) != want {
				t.Errorf("%s in %d shards: %s, not %s", ask, shards, evalText(got), want)
			}
		}
	}
	// Sums that wrap, and values at both ends.
	ends := seriesList(impl.Series{Labels: labelsOf("_name", "m", "i", "1"), Samples: samplesAt(math.MaxInt, 5)}, impl.Series{Labels: labelsOf("_name", "m", "i", "2"), Samples: samplesAt(math.MaxInt, 5)}, impl.Series{Labels: labelsOf("_name", "m", "i", "3"), Samples: samplesAt(math.MinInt+1, 5)}, impl.Series{Labels: labelsOf("_name", "m", "i", "4"), Samples: samplesAt(math.MinInt, 5)})
	for ask, want := range map[string]string{"sum(m)": "{} 9223372036854775807", "sum(m + 1)": "{} -9223372036854775806", "min(m)": "{} -9223372036854775807", "max(m)": "{} 9223372036854775807", "count(m)": "{} 3", "min(m + 1)": "{} -9223372036854775808"} {
		for shards := 1; shards <= 50; shards++ {
			if got := checkSharded(t, ends, plainQuery(ask), 5, shards); evalText(got) != want {
				t.Errorf("%s in %d shards: %s, not %s", ask, shards, evalText(got), want)
			}
		}
	}
}

func TestShardsThatMayBeAsked(t *testing.T) {
	list := shardSeries(5)
	for _, ask := range []string{"count(m)", "m", "5", "avg(m)"} {
		q := plainQuery(ask)
		for shards, err := range map[int]int{1: 0, 50: 0, 0: 1, 51: 1, -1: 1, math.MinInt: 1, math.MaxInt: 1} {
			if got := checkSharded(t, list, q, 10, shards); got.Err != err {
				t.Errorf("%s in %d shards: Err %d", ask, shards, got.Err)
			}
		}
		for time, err := range map[int]int{0: 0, maxTime: 0, -1: 1, maxTime + 1: 1, math.MinInt: 1, math.MaxInt: 1} {
			if got := checkSharded(t, list, q, time, 3); got.Err != err {
				t.Errorf("%s at %d: Err %d", ask, time, got.Err)
			}
		}
		for i, l := range badSeries() {
			if got := checkSharded(t, l, q, 10, 3); !same(got, impl.EvalRes{Err: impl.ErrAsked}) {
				t.Errorf("%s of list %d: %+v", ask, i, got)
			}
		}
		// No series at all, and fewer than shards.
		checkSharded(t, nil, q, 10, 50)
		checkSharded(t, list[:1], q, 10, 50)
	}
	for i, q := range [][]impl.Query{nil, {{}}, wideQuery(61), askAgg(impl.AggSum, askSelect("9")), askAgg(impl.AggSum, askRange(5, askSelect("m"))), askAgg(impl.AggSum, plainQuery("abs(m[5])")), askAgg(impl.AggSum, askText("x"))} {
		if got := checkSharded(t, list, q, 10, 3); !same(got, impl.EvalRes{Err: impl.ErrAsked}) {
			t.Errorf("question %d: %+v", i, got)
		}
	}
	if got := checkSharded(t, shardSeries(200), plainQuery("count(m)"), 10, 50); evalText(got) != "{} 200" {
		t.Errorf("200 series: %s", evalText(got))
	}
}

// longSeries are n series of 2000 samples in a shard of two, or in any one below 0.
func longSeries(n int, shard int) []impl.Series {
	var out []impl.Series
	for i := 0; len(out) < n; i++ {
		l := labelsOf("_name", "m", "i", fmt.Sprint(1000+i))
		if shard < 0 || impl.HashLabels(l)%2 == shard {
			out = append(out, impl.Series{Labels: l, Samples: steadySamples(2000, 0, 1, 1)})
		}
	}
	return out
}

// What is touched is counted for each shard alone.
func TestShardsCountAlone(t *testing.T) {
	q := plainQuery("count(sum_over(m[2000]))")
	for _, c := range []struct {
		list   []impl.Series
		shards int
		err    int
	}{
		// 24 series and three nodes, or one sample less than all of 25 and three nodes.
		{longSeries(24, -1), 1, 0}, {longSeries(25, -1), 1, 2}, {longSeries(25, 0), 2, 2}, {longSeries(25, 1), 2, 2}, {longSeries(24, 0), 2, 0}, {seriesList(append(longSeries(24, 0), longSeries(24, 1)...)...), 2, 0}, {seriesList(append(longSeries(24, 0), longSeries(24, 1)...)...), 1, 2}, {seriesList(append(longSeries(24, 0), longSeries(25, 1)...)...), 2, 2}, {seriesList(append(longSeries(25, 0), longSeries(24, 1)...)...), 2, 2}, {longSeries(200, -1), 50, 0}, {longSeries(200, -1), 2, 2},
	} {
		got := impl.EvalSharded(c.list, q, 1999, c.shards)
		if want := fmt.Sprint("{} ", len(c.list)); got.Err != c.err || c.err == 0 && evalText(got) != want || c.err > 0 && !same(got, impl.EvalRes{Err: c.err}) {
			t.Errorf("%d series in %d shards: %s", len(c.list), c.shards, evalText(got))
		}
	}
	// What can't be asked in shards is counted as a whole.
	if got := impl.EvalSharded(longSeries(25, -1), plainQuery("avg(sum_over(m[2000]))"), 1999, 50); got.Err != impl.ErrTouched {
		t.Errorf("not in shards: %d", got.Err)
	}
}

// bySeries is a question whose items come of one series each.
func (a evalAsker) bySeries(deep int) []impl.Query {
	named := asked(a.selection(), func(x *impl.Query) { x.Text = oneOf(a.Rand, "m", "n", "h") })
	if deep < 2 {
		return named
	}
	number := constantRows(a.Intn(20) - 8)
	op := impl.Query{Kind: impl.QOp, Op: 1 + a.Intn(11)}
	op.Bool = op.Op > 5 && likely(a.Rand, 2)
	switch a.Intn(7) {
	case 0:
		return askNeg(a.bySeries(deep - 1))
	case 1:
		return queryTree(op, number, a.bySeries(deep-1))
	case 2:
		return queryTree(op, a.bySeries(deep-1), number)
	case 3:
		return askCall("abs", a.bySeries(deep-1))
	case 4:
		return askCall("timestamp", named)
	case 5:
		return named
	}
	name := oneOf(a.Rand, strings.Fields("avg_over changes count_over delta last_over max_over min_over rate resets rise sum_over")...)
	return askCall(name, askRange(oneOf(a.Rand, 5, 20, 60, 1000), named))
}

// near is a question that is made of one in shards, and is nearly such a one.
func (a evalAsker) near(q []impl.Query) []impl.Query {
	kid := q[1:]
	switch a.Intn(6) {
	case 0:
		return asked(q, func(x *impl.Query) { x.Op = impl.AggAvg })
	case 1:
		return queryTree(q[0], a.op(kid, kid))
	case 2:
		return queryTree(q[0], askCall("timestamp", kid))
	case 3:
		return queryTree(q[0], a.plain(kid, oneOf(a.Rand, askCall("time"), askNeg(askNum(0)), askOp(impl.OpAdd, askNum(1), askNum(2)), askNum(3))))
	case 4:
		return queryTree(q[0], askCall("sum_over", askSub(20, 10, kid)))
	}
	out := slices.Clone(q)
	for i := range out {
		if out[i].Kind == impl.QSelect {
			out[i].Text, out[i].Match = "", []impl.Matcher{{Name: "a", Op: impl.MatchLike, Value: "?"}}
		}
	}
	return out
}

// Promise 17: in shards of any number a question says what it says of all series.
func TestShardedQuestionsSayTheSame(t *testing.T) {
	a := newEvalAsker(176)
	items, can, near := 0, 0, 0
	for range 2500 {
		list, time, shards := a.list(), a.Intn(600), oneOf(a.Rand, 1, 2, 3, 4, 5, 1+a.Intn(50))
		q := asked(askAgg(oneOf(a.Rand, impl.AggSum, impl.AggMin, impl.AggMax, impl.AggCount), a.bySeries(1+a.Intn(6))), func(x *impl.Query) { x.By = a.Intn(3) })
		if q[0].By > 0 {
			q[0].Names = a.names()
		}
		if !checkShardable(t, q) {
			t.Fatalf("%s is not Shardable", impl.QueryText(q))
		}
		// And one that is another one at one place, which may be by series or not.
		other, changed := a.near(q), slices.Clone(q)
		a.change(&changed[a.Intn(len(changed))])
		if checkShardable(t, changed) {
			can++
		}
		if !checkShardable(t, other) && impl.KindOfQuery(other) != "" {
			near++
		}
		for _, x := range [][]impl.Query{q, other, changed} {
			got := checkSharded(t, list, x, time, shards)
			if want := impl.EvalQuery(list, x, time); !same(got, want) && want.Err != impl.ErrTouched {
				t.Fatalf("%s at %d in %d shards: %s, not %s", impl.QueryText(x), time, shards, evalText(got), evalText(want))
			}
			items += len(got.Items)
		}
	}
	if items < 2000 || can < 200 || near < 1000 {
		t.Errorf("%d items, changed %d are Shardable, %d not", items, can, near)
	}
}

func TestAnyQuestionInShards(t *testing.T) {
	a := newEvalAsker(177)
	can := 0
	for range 4000 {
		q := oneOf(a.Rand, a.question, a.asker.question)()
		if likely(a.Rand, 2) {
			q = a.agg(3)
		}
		list, time := a.list(), a.Intn(600)
		if checkShardable(t, q) {
			can++
		}
		if slices.ContainsFunc(q, func(x impl.Query) bool { return x.Kind == impl.QSub && x.Num > 2000 }) {
			continue
		}
		got, want := checkSharded(t, list, q, time, 1+a.Intn(50)), impl.EvalQuery(list, q, time)
		if !same(got, want) && want.Err != impl.ErrTouched {
			t.Fatalf("%s at %d: %s, not %s", impl.QueryText(q), time, evalText(got), evalText(want))
		}
	}
	if can < 100 {
		t.Errorf("only %d are Shardable", can)
	}
}

// entrySteps tells the steps of an entry, false where they are not as said.
func entrySteps(c impl.Cached) ([]int, bool) {
	steps, ok := stepsModel(c.From, c.To, c.Step)
	return steps, ok && steps[len(steps)-1] == c.To
}

func goodRowsModel(rows []impl.Series, steps []int) bool {
	for i, row := range rows {
		if !goodLabelsModel(row.Labels) || !goodSamplesModel(row.Samples) || len(row.Samples) == 0 {
			return false
		}
		if i > 0 && compareModel(rows[i-1].Labels, row.Labels) != -1 {
			return false
		}
		if slices.ContainsFunc(row.Samples, func(s impl.Sample) bool { return !slices.Contains(steps, s.Time) }) {
			return false
		}
	}
	return true
}

func goodCachedModel(cache []impl.Cached) bool {
	for _, c := range cache {
		q := impl.ReadQuery(c.Text).Node
		steps, ok := entrySteps(c)
		if kind := kindModel(q); !ok || kind != "number" && kind != "vector" || queryTextModel(q) != c.Text || !goodRowsModel(c.Rows, steps) {
			return false
		}
	}
	return len(cache) <= maxCached
}

func checkGoodCached(t *testing.T, cache []impl.Cached) bool {
	t.Helper()
	arg, kept := guarded(cache)
	got := impl.GoodCached(arg)
	if got != goodCachedModel(cache) || !kept() {
		t.Fatalf("GoodCached of %s: %v", shortly(cache), got)
	}
	return got
}

// rowsOf reads rows that are told as rowsText does.
func rowsOf(text string) []impl.Series {
	out := plainSeries(strings.ReplaceAll(text, "{}", "_none"))
	for i := range out {
		out[i].Labels = slices.DeleteFunc(out[i].Labels, func(l impl.Label) bool { return l.Name == "_name" && l.Value == "_none" })
	}
	slices.SortFunc(out, func(a, b impl.Series) int { return compareModel(a.Labels, b.Labels) })
	return out
}

func entry(text string, from int, to int, step int, rows string) impl.Cached {
	return impl.Cached{Text: text, Step: step, From: from, To: to, Rows: rowsOf(rows)}
}

// entryText tells an entry shortly: m 0..20/10: m{a=1} 0:5.
func entryText(c impl.Cached) string {
	text := fmt.Sprintf("%s %d..%d/%d:", c.Text, c.From, c.To, c.Step)
	if len(c.Rows) > 0 {
		text += " " + rowsText(c.Rows)
	}
	return text
}

func cacheText(cache []impl.Cached) string {
	var out []string
	for _, c := range cache {
		out = append(out, entryText(c))
	}
	return strings.Join(out, " | ")
}

// longVector is a question of kind vector whose text has just so many bytes; n in 3900..5000.
func longVector(n int) []impl.Query {
	var kids [][]impl.Query
	for range 4 {
		kids = append(kids, askSelect("m", slices.Repeat([]impl.Matcher{{Name: "a", Op: impl.MatchNot, Value: strings.Repeat("v", 96)}}, 9)...))
	}
	last := askSelect("m", slices.Repeat([]impl.Matcher{{Name: "a", Op: impl.MatchNot}}, 9)...)
	build := func() []impl.Query {
		q := kids[0]
		for _, kid := range append(slices.Clone(kids[1:]), last) {
			q = askOp(impl.OpOr, q, kid)
		}
		return q
	}
	left := n - len(longText(build()))
	for i := range last[0].Match {
		size := min(left, 100)
		last[0].Match[i].Value = strings.Repeat("w", size)
		left -= size
	}
	return build()
}

func TestCachesThatAreGood(t *testing.T) {
	base := entry("m", 20, 50, 10, "{} 20:1; m{a=1} 20:5 50:7; n 30:end")
	with := func(change func(c *impl.Cached)) impl.Cached {
		c := laid(base, 0)
		change(&c)
		return c
	}
	at := func(from int, to int, step int) impl.Cached {
		return impl.Cached{Text: "m", From: from, To: to, Step: step}
	}
	text := func(s string) impl.Cached { return impl.Cached{Text: s, From: 5, To: 5, Step: 1} }
	rows := func(rows ...impl.Series) impl.Cached { return with(func(c *impl.Cached) { c.Rows = rows }) }
	one := labelsOf("a", "1")
	good := []impl.Cached{
		base, with(func(c *impl.Cached) { c.Rows = nil }), text("m"), text("5"), text("-5"), text("--5"), text("m + 1"), text("sum by (a, b)(m)"), text(`m{a="1"}`), text("m offset 5 @ 7"), text("m @ 0"), text("rate(m[5])"), text("sum_over((m)[5:1])"), text("time()"), text("1 == bool 1"), text("1 / 0"), text("scalar(m)"), text("m and m"),
		at(0, 0, 1), at(0, 0, maxTime), at(maxTime, maxTime, 1), at(0, maxTime, maxTime), at(0, 499, 1), at(0, 499*7, 7), at(1, 500, 1), at(maxTime-499, maxTime, 1), at(0, 20, 20), at(0, 20, 5),
		rows(impl.Series{Samples: samplesAt(math.MinInt, 20, 30, 40, 50)}), rows(impl.Series{Labels: one, Samples: samplesAt(math.MaxInt, 50)}), rows(impl.Series{Labels: manyLabels(20), Samples: samplesAt(0, 20)}), rows(impl.Series{Labels: labelsOf("a", "1"), Samples: samplesAt(1, 20)}, impl.Series{Labels: labelsOf("a", "1", "b", "1"), Samples: samplesAt(1, 20)}, impl.Series{Labels: labelsOf("a", "2"), Samples: samplesAt(1, 20)}),
		with(func(c *impl.Cached) { c.From, c.To, c.Step, c.Rows = 0, 499, 1, nil }), {Text: "m", From: 0, To: 499, Step: 1, Rows: []impl.Series{series("m", steadySamples(500, 0, 1, 7)...)}}, {Text: longText(longVector(maxQuery)), Step: 1},
	}
	var many []impl.Series
	for i := range 300 {
		many = append(many, impl.Series{Labels: labelsOf("a", fmt.Sprint(1000+i)), Samples: samplesAt(i, 20)})
	}
	good = append(good, rows(many...))
	for i, c := range good {
		if !checkGoodCached(t, []impl.Cached{c}) {
			t.Errorf("good %d: %s", i, shortly(entryText(c)))
		}
	}
	bad := []impl.Cached{
		{}, text(""), text(" m"), text("m "), text("(m)"), text("m+1"), text("m + (1)"), text("m + 1 "), text("05"), text("m{}"), text("{}"), text("sum by (b, a)(m)"), text("sum by(a)(m)"), text("m offset 0"), text("m @ 7 offset 5"), text("m[5:1]"), text("(m)[5:1]"), text("m[5]"), text(`"x"`), text(`""`), text("1 == 1"), text("m and 1"), text("rate(m)"), text("sum(m[5])"), text("m +"), text("9223372036854775808"), text("by"), text("m\n"), text("é"), text(`m{ a="1"}`), text(`m{_name="1"}`), text(`-"x"`), {Text: longText(longVector(maxQuery + 1)), Step: 1}, text(strings.Repeat("m", 41)), text(strings.Repeat("(", 1<<20)), text(longText(deepQuery(13))),
		at(0, 0, 0), at(0, 0, -1), at(0, 0, maxTime+1), at(0, 0, math.MinInt), at(0, 0, math.MaxInt), at(-1, 0, 1), at(-1, -1, 1), at(maxTime, maxTime+1, 1), at(maxTime+1, maxTime+1, 1), at(1, 0, 1), at(10, 0, 10), at(0, 500, 1), at(0, 500*7, 7), at(0, 19, 10), at(0, 21, 10), at(1, 20, 10), at(0, 5, 10), at(0, maxTime, maxTime-1), at(0, maxTime, 1), at(math.MinInt, math.MaxInt, 1), at(math.MinInt, 0, 1), at(0, math.MaxInt, math.MaxInt),
		rows(impl.Series{}), rows(impl.Series{Labels: one}), rows(impl.Series{Labels: one, Samples: []impl.Sample{}}), rows(base.Rows[0], impl.Series{Labels: labelsOf("z", "1")}),
	}
	for _, time := range []int{0, 10, 19, 21, 25, 49, 51, 60, -10, maxTime, maxTime + 1, math.MinInt, math.MaxInt} {
		bad = append(bad, rows(impl.Series{Labels: one, Samples: samplesAt(1, time)}), rows(impl.Series{Labels: one, Samples: samplesAt(1, 20, time)}), rows(impl.Series{Labels: one, Samples: samplesAt(1, time, 50)}))
	}
	bad = append(bad, rows(impl.Series{Labels: one, Samples: samplesAt(1, 30, 20)}), rows(impl.Series{Labels: one, Samples: samplesAt(1, 20, 20)}), rows(impl.Series{Labels: one, Samples: samplesAt(1, 20, 40, 30)}), rows(base.Rows[1], base.Rows[0]), rows(base.Rows[0], base.Rows[0]), rows(base.Rows[0], base.Rows[2], base.Rows[1]), rows(base.Rows[0], base.Rows[1], base.Rows[1]))
	for _, l := range badLabels() {
		bad = append(bad, rows(impl.Series{Labels: l, Samples: samplesAt(1, 20)}), rows(impl.Series{Samples: samplesAt(1, 20)}, impl.Series{Labels: l, Samples: samplesAt(1, 20)}))
	}
	for i, c := range bad {
		for _, cache := range [][]impl.Cached{{c}, {base, c}, {c, base}} {
			if checkGoodCached(t, cache) {
				t.Errorf("bad %d: %s", i, shortly(entryText(c)))
			}
		}
	}
	for n, want := range map[int]bool{0: true, 1: true, 19: true, 20: true, 21: false, 1000: false} {
		if checkGoodCached(t, slices.Repeat([]impl.Cached{base}, n)) != want {
			t.Errorf("%d entries", n)
		}
	}
}

func honestModel(cache []impl.Cached, list []impl.Series) bool {
	if !goodCachedModel(cache) || !goodSeriesModel(list) {
		return false
	}
	for _, c := range cache {
		if !same(evalRangeModel(list, impl.ReadQuery(c.Text).Node, c.From, c.To, c.Step), impl.RangeRes{Rows: c.Rows}) {
			return false
		}
	}
	return true
}

func checkHonest(t *testing.T, cache []impl.Cached, list []impl.Series) bool {
	t.Helper()
	cacheArg, cacheKept := guarded(cache)
	listArg, listKept := guarded(list)
	got := impl.HonestCached(cacheArg, listArg)
	if got != honestModel(cache, list) || !cacheKept() || !listKept() {
		t.Fatalf("HonestCached of %s by %s: %v", shortly(cacheText(cache)), shortly(list), got)
	}
	return got
}

func TestHonestCaches(t *testing.T) {
	list := plainSeries("m{a=1} 0:1 10:2 20:3; m{a=2} 10:5 20:end 30:6; n 0:4")
	honest := []impl.Cached{
		entry("m", 0, 30, 10, "m{a=1} 0:1 10:2 20:3 30:3; m{a=2} 10:5 30:6"), entry("m", 5, 5, 7, "m{a=1} 5:1"), entry("time()", 3, 9, 3, "{} 3:3 6:6 9:9"), entry("0", 0, 1, 1, "{} 0:0 1:0"), entry("none", 0, 30, 10, ""), entry("m", 1000, 2000, 500, ""), entry("sum(m)", 0, 20, 10, "{} 0:1 10:7 20:3"), entry("1 / (time() - 5)", 6, 7, 1, "{} 6:1 7:0"),
	}
	for _, c := range honest {
		if !checkHonest(t, []impl.Cached{c}, list) {
			t.Errorf("not honest: %s", entryText(c))
		}
	}
	if !checkHonest(t, honest, list) || !checkHonest(t, append(honest, honest[0]), list) || !checkHonest(t, nil, list) || !checkHonest(t, nil, nil) || !checkHonest(t, []impl.Cached{entry("none", 0, 30, 10, "")}, nil) {
		t.Error("all of them")
	}
	lies := []impl.Cached{
		// One sample less, one more, another Value, another label, a row less, a row more.
		entry("m", 0, 30, 10, "m{a=1} 0:1 10:2 20:3; m{a=2} 10:5 30:6"), entry("m", 0, 30, 10, "m{a=1} 0:1 10:2 20:3 30:3; m{a=2} 10:5 20:5 30:6"), entry("m", 0, 30, 10, "m{a=1} 0:1 10:2 20:3 30:4; m{a=2} 10:5 30:6"), entry("m", 0, 30, 10, "m{a=1} 0:1 10:2 20:3 30:3; m{a=3} 10:5 30:6"), entry("m", 0, 30, 10, "m{a=1} 0:1 10:2 20:3 30:3"), entry("m", 0, 30, 10, "m{a=2} 10:5 30:6"), entry("m", 0, 30, 10, ""), entry("m", 0, 30, 10, "m{a=1} 0:1 10:2 20:3 30:3; m{a=2} 10:5 30:6; n 0:4"), entry("none", 0, 30, 10, "m 0:0"), entry("time()", 3, 9, 3, "{} 3:3 6:6"), entry("time()", 3, 9, 3, ""), entry("time()", 3, 9, 3, "n 3:3 6:6 9:9"), entry("0", 0, 1, 1, "{} 0:0"), entry("m", 0, 30, 10, "m{a=1} 0:1 10:2 20:3 30:3; m{a=2} 10:5 30:7"), entry("n", 0, 30, 10, "m{a=1} 0:1 10:2 20:3 30:3; m{a=2} 10:5 30:6"),
		// Questions with an Err.
		entry("1 / 0", 0, 10, 10, ""), entry("1 / (time() - 5)", 0, 10, 5, "{} 0:-1 10:0"), entry("m + on() m", 10, 10, 1, ""), entry("sum_over((1)[2000:1])", 5000, 5000, 1, ""),
		// Not good.
		entry("m", 0, 31, 10, "m{a=1} 0:1 10:2 20:3 30:3; m{a=2} 10:5 30:6"), entry("m ", 0, 30, 10, "m{a=1} 0:1 10:2 20:3 30:3; m{a=2} 10:5 30:6"), {}, entry("m[5]", 0, 0, 1, ""),
	}
	for i, c := range lies {
		for _, cache := range [][]impl.Cached{{c}, append(slices.Clone(honest), c), append([]impl.Cached{c}, honest...)} {
			if checkHonest(t, cache, list) {
				t.Errorf("lie %d: %s", i, entryText(c))
			}
		}
	}
	for i, l := range badSeries() {
		for _, cache := range [][]impl.Cached{nil, honest[3:4], honest[4:5], honest} {
			if checkHonest(t, cache, l) {
				t.Errorf("list %d", i)
			}
		}
	}
	if checkHonest(t, honest[:1], plainSeries("m{a=1} 0:1 10:2 20:3; m{a=2} 10:5 20:end 29:7 30:6; n 0:4")) != true || checkHonest(t, honest[:1], plainSeries("m{a=1} 0:1 10:2 20:3; m{a=2} 10:5 30:6; n 0:4")) {
		t.Error("by other lists")
	}
	// What would touch too much is no answer that can be held against an entry.
	wide := impl.Cached{Text: "m", From: 0, To: 250, Step: 1, Rows: impl.EvalSplit(presentSeries(199, 600), plainQuery("m"), 0, 250, 1, 100).Rows}
	if len(wide.Rows) != 199 || !impl.GoodCached([]impl.Cached{wide}) || impl.HonestCached([]impl.Cached{wide}, presentSeries(199, 600)) {
		t.Error("too much is touched")
	}
	for i, row := range wide.Rows {
		wide.Rows[i].Samples = row.Samples[:250]
	}
	wide.To = 249
	if !impl.HonestCached([]impl.Cached{wide}, presentSeries(199, 600)) {
		t.Error("just as much is touched as may be")
	}
	if many := slices.Repeat(honest[:1], 20); !checkHonest(t, many, list) || checkHonest(t, append(many, honest[0]), list) {
		t.Error("20 entries, and one more")
	}
}

// cachedAnswer is both answers of AskCached.
type cachedAnswer struct {
	Said impl.RangeRes
	Next []impl.Cached
}

// hitModel tells the number of the entry that has one of the steps asked for, -1 where none has.
func hitModel(cache []impl.Cached, text string, wanted []int, step int) int {
	return slices.IndexFunc(cache, func(c impl.Cached) bool {
		has, _ := entrySteps(c)
		return c.Text == text && c.Step == step && slices.ContainsFunc(has, func(time int) bool { return slices.Contains(wanted, time) })
	})
}

// askedAround asks for the steps ahead of and behind those that an entry has, and writes what is said into the book.
func askedAround(book rowBook, list []impl.Series, q []impl.Query, wanted []int, has []int, step int) int {
	parts := [2][]int{wanted}
	if len(has) > 0 {
		parts[0] = nil
		for _, time := range wanted {
			if time < has[0] {
				parts[0] = append(parts[0], time)
			}
			if time > has[len(has)-1] {
				parts[1] = append(parts[1], time)
			}
		}
	}
	for _, part := range parts {
		if len(part) == 0 {
			continue
		}
		said := evalRangeModel(list, q, part[0], part[len(part)-1], step)
		if said.Err != 0 {
			return said.Err
		}
		book.write(said.Rows)
	}
	return 0
}

func askCachedModel(cache []impl.Cached, list []impl.Series, q []impl.Query, from int, to int, step int, fresh int) cachedAnswer {
	if !goodCachedModel(cache) {
		return cachedAnswer{Said: impl.RangeRes{Err: impl.ErrAsked}}
	}
	kind, text := kindModel(q), queryTextModel(q)
	wanted, ok := stepsModel(from, to, step)
	if !goodSeriesModel(list) || kind != "number" && kind != "vector" || text == "" || !ok || !isWithin(fresh, 0, maxTime) {
		return cachedAnswer{impl.RangeRes{Err: impl.ErrAsked}, cache}
	}
	book, next := newRowBook(), slices.Clone(cache)
	var has []int
	if hit := hitModel(cache, text, wanted, step); hit >= 0 {
		has, _ = entrySteps(cache[hit])
		book.write(cache[hit].Rows)
		next = slices.Delete(next, hit, hit+1)
	}
	if err := askedAround(book, list, q, wanted, has, step); err != 0 {
		return cachedAnswer{impl.RangeRes{Err: err}, cache}
	}
	kept := slices.Compact(slices.Sorted(slices.Values(slices.Concat(wanted, has))))
	if len(kept) > maxSteps {
		kept = slices.Clone(wanted)
	}
	kept = slices.DeleteFunc(kept, func(time int) bool { return time > fresh })
	if len(kept) > 0 {
		next = append([]impl.Cached{{Text: text, Step: step, From: kept[0], To: kept[len(kept)-1], Rows: book.at(kept)}}, next...)
	}
	return cachedAnswer{impl.RangeRes{Rows: book.at(wanted)}, next[:min(len(next), maxCached)]}
}

func checkAsk(t *testing.T, cache []impl.Cached, list []impl.Series, q []impl.Query, from int, to int, step int, fresh int) (impl.RangeRes, []impl.Cached) {
	t.Helper()
	cacheArg, cacheKept := guarded(cache)
	listArg, listKept := guarded(list)
	qArg, qKept := guarded(q)
	var got cachedAnswer
	got.Said, got.Next = impl.AskCached(cacheArg, listArg, qArg, from, to, step, fresh)
	want := askCachedModel(cache, list, q, from, to, step, fresh)
	if !same(got, want) {
		t.Fatalf("%s from %d to %d by %d, fresh %d, with %s:\n%s and %s, not\n%s and %s", shortly(longText(q)), from, to, step, fresh, shortly(cacheText(cache)), shortly(got.Said), shortly(cacheText(got.Next)), shortly(want.Said), shortly(cacheText(want.Next)))
	}
	if !cacheKept() || !listKept() || !qKept() {
		t.Fatalf("%s from %d to %d by %d, fresh %d, writes into an argument", shortly(longText(q)), from, to, step, fresh)
	}
	checkOwn(t, got, cacheArg, listArg, qArg)
	if goodCachedModel(cache) && !checkGoodCached(t, got.Next) {
		t.Fatalf("%s is not good any more", shortly(cacheText(got.Next)))
	}
	return got.Said, got.Next
}

func TestAskedWithCaches(t *testing.T) {
	list := plainSeries("m{a=1} 0:0 10:1 20:2 30:3 40:4 50:5 60:6 70:7; m{a=2} 30:33")
	other := "n 0..20/10: n 10:8"
	rest := entry("n", 0, 20, 10, "n 10:8")
	// What an entry says is unlike what the series do, so that it is seen what is taken from it.
	old := entry("m", 20, 40, 10, "m{a=1} 20:-2 30:-3; m{a=3} 40:-4")
	for _, c := range []struct {
		name                  string
		cache                 []impl.Cached
		from, to, step, fresh int
		rows, next            string
	}{
		{"no hit, nothing kept yet", nil, 0, 20, 10, 20, "m{a=1} 0:0 10:1 20:2", "m 0..20/10: m{a=1} 0:0 10:1 20:2"},
		{"no hit", []impl.Cached{rest}, 0, 29, 10, 25, "m{a=1} 0:0 10:1 20:2", "m 0..20/10: m{a=1} 0:0 10:1 20:2 | " + other},
		{"a hit that has all steps", []impl.Cached{rest, old}, 20, 40, 10, 40, "m{a=1} 20:-2 30:-3; m{a=3} 40:-4", "m 20..40/10: m{a=1} 20:-2 30:-3; m{a=3} 40:-4 | " + other},
		{"more than are asked for", []impl.Cached{rest, old}, 30, 30, 10, 40, "m{a=1} 30:-3", "m 20..40/10: m{a=1} 20:-2 30:-3; m{a=3} 40:-4 | " + other},
		{"more at the end", []impl.Cached{old, rest}, 20, 39, 10, 40, "m{a=1} 20:-2 30:-3", "m 20..40/10: m{a=1} 20:-2 30:-3; m{a=3} 40:-4 | " + other},
		{"some at the beginning", []impl.Cached{old, rest}, 30, 55, 10, 60, "m{a=1} 30:-3 50:5; m{a=2} 50:33; m{a=3} 40:-4", "m 20..50/10: m{a=1} 20:-2 30:-3 50:5; m{a=2} 50:33; m{a=3} 40:-4 | " + other},
		{"some at the end", []impl.Cached{old, rest}, 0, 20, 10, 60, "m{a=1} 0:0 10:1 20:-2", "m 0..40/10: m{a=1} 0:0 10:1 20:-2 30:-3; m{a=3} 40:-4 | " + other},
		{"some in the middle", []impl.Cached{old, rest}, 10, 60, 10, 60, "m{a=1} 10:1 20:-2 30:-3 50:5 60:6; m{a=2} 50:33 60:33; m{a=3} 40:-4", "m 10..60/10: m{a=1} 10:1 20:-2 30:-3 50:5 60:6; m{a=2} 50:33 60:33; m{a=3} 40:-4 | " + other},
		{"just the first one", []impl.Cached{old}, 20, 20, 10, 20, "m{a=1} 20:-2", "m 20..20/10: m{a=1} 20:-2"},
		{"just the last one", []impl.Cached{old}, 40, 50, 10, 60, "m{a=1} 50:5; m{a=2} 50:33; m{a=3} 40:-4", "m 20..50/10: m{a=1} 20:-2 30:-3 50:5; m{a=2} 50:33; m{a=3} 40:-4"},
		// Side by side, but with no step of those asked for.
		{"right ahead", []impl.Cached{old}, 0, 10, 10, 60, "m{a=1} 0:0 10:1", "m 0..10/10: m{a=1} 0:0 10:1 | m 20..40/10: m{a=1} 20:-2 30:-3; m{a=3} 40:-4"},
		{"up to right ahead", []impl.Cached{old}, 10, 19, 10, 60, "m{a=1} 10:1", "m 10..10/10: m{a=1} 10:1 | m 20..40/10: m{a=1} 20:-2 30:-3; m{a=3} 40:-4"},
		{"right behind", []impl.Cached{old}, 50, 60, 10, 60, "m{a=1} 50:5 60:6; m{a=2} 50:33 60:33", "m 50..60/10: m{a=1} 50:5 60:6; m{a=2} 50:33 60:33 | m 20..40/10: m{a=1} 20:-2 30:-3; m{a=3} 40:-4"},
		{"steps that are none of them", []impl.Cached{old}, 15, 45, 10, 60, "m{a=1} 15:1 25:2 35:3 45:4; m{a=2} 35:33 45:33", "m 15..45/10: m{a=1} 15:1 25:2 35:3 45:4; m{a=2} 35:33 45:33 | m 20..40/10: m{a=1} 20:-2 30:-3; m{a=3} 40:-4"},
		{"another Step", []impl.Cached{old}, 20, 40, 20, 60, "m{a=1} 20:2 40:4; m{a=2} 40:33", "m 20..40/20: m{a=1} 20:2 40:4; m{a=2} 40:33 | m 20..40/10: m{a=1} 20:-2 30:-3; m{a=3} 40:-4"},
		{"another Step of one step", []impl.Cached{old}, 20, 20, 5, 60, "m{a=1} 20:2", "m 20..20/5: m{a=1} 20:2 | m 20..40/10: m{a=1} 20:-2 30:-3; m{a=3} 40:-4"},
		// Of two the first one; the other one stays as it is.
		{"two", []impl.Cached{old, entry("m", 0, 20, 10, "m 0:9 10:9 20:9")}, 10, 30, 10, 60, "m{a=1} 10:1 20:-2 30:-3", "m 10..40/10: m{a=1} 10:1 20:-2 30:-3; m{a=3} 40:-4 | m 0..20/10: m 0:9 10:9 20:9"},
		{"two, the other way round", []impl.Cached{entry("m", 0, 20, 10, "m 0:9 10:9 20:9"), old}, 10, 30, 10, 60, "m 10:9 20:9; m{a=1} 30:3; m{a=2} 30:33", "m 0..30/10: m 0:9 10:9 20:9; m{a=1} 30:3; m{a=2} 30:33 | m 20..40/10: m{a=1} 20:-2 30:-3; m{a=3} 40:-4"},
		{"two, of which the second one hits", []impl.Cached{entry("m", 50, 50, 10, ""), rest, old}, 30, 30, 10, 60, "m{a=1} 30:-3", "m 20..40/10: m{a=1} 20:-2 30:-3; m{a=3} 40:-4 | m 50..50/10: | " + other},
		{"an entry that says nothing", []impl.Cached{entry("m", 10, 30, 10, "")}, 0, 40, 10, 60, "m{a=1} 0:0 40:4; m{a=2} 40:33", "m 0..40/10: m{a=1} 0:0 40:4; m{a=2} 40:33"},
		// Fresh below all steps, at and among them, above them; also below what the entry has.
		{"fresh below all", nil, 10, 30, 10, 9, "m{a=1} 10:1 20:2 30:3; m{a=2} 30:33", ""},
		{"fresh at the first one", nil, 10, 30, 10, 10, "m{a=1} 10:1 20:2 30:3; m{a=2} 30:33", "m 10..10/10: m{a=1} 10:1"},
		{"fresh between", nil, 10, 30, 10, 29, "m{a=1} 10:1 20:2 30:3; m{a=2} 30:33", "m 10..20/10: m{a=1} 10:1 20:2"},
		{"fresh at the last one", nil, 10, 30, 10, 30, "m{a=1} 10:1 20:2 30:3; m{a=2} 30:33", "m 10..30/10: m{a=1} 10:1 20:2 30:3; m{a=2} 30:33"},
		{"fresh above all", nil, 10, 30, 10, maxTime, "m{a=1} 10:1 20:2 30:3; m{a=2} 30:33", "m 10..30/10: m{a=1} 10:1 20:2 30:3; m{a=2} 30:33"},
		{"fresh 0", nil, 0, 10, 10, 0, "m{a=1} 0:0 10:1", "m 0..0/10: m{a=1} 0:0"},
		{"fresh below all of a hit", []impl.Cached{old, rest}, 20, 40, 10, 19, "m{a=1} 20:-2 30:-3; m{a=3} 40:-4", other},
		{"fresh below all of a hit and what is asked for", []impl.Cached{rest, old}, 30, 50, 10, 0, "m{a=1} 30:-3 50:5; m{a=2} 50:33; m{a=3} 40:-4", other},
		{"fresh below a hit, not below what is asked for", []impl.Cached{rest, old}, 0, 20, 10, 10, "m{a=1} 0:0 10:1 20:-2", "m 0..10/10: m{a=1} 0:0 10:1 | " + other},
		{"fresh below what is asked for, not below a hit", []impl.Cached{rest, old}, 40, 60, 10, 35, "m{a=1} 50:5 60:6; m{a=2} 50:33 60:33; m{a=3} 40:-4", "m 20..30/10: m{a=1} 20:-2 30:-3 | " + other},
		{"fresh within a hit that has all", []impl.Cached{old}, 20, 40, 10, 39, "m{a=1} 20:-2 30:-3; m{a=3} 40:-4", "m 20..30/10: m{a=1} 20:-2 30:-3"},
		{"fresh within a hit that has more", []impl.Cached{old}, 20, 20, 10, 30, "m{a=1} 20:-2", "m 20..30/10: m{a=1} 20:-2 30:-3"},
		{"fresh behind a hit", []impl.Cached{old}, 40, 70, 10, 65, "m{a=1} 50:5 60:6 70:7; m{a=2} 50:33 60:33 70:33; m{a=3} 40:-4", "m 20..60/10: m{a=1} 20:-2 30:-3 50:5 60:6; m{a=2} 50:33 60:33; m{a=3} 40:-4"},
		{"nothing is said", nil, 2000, 2020, 10, 3000, "", "m 2000..2020/10:"},
	} {
		said, next := checkAsk(t, c.cache, list, plainQuery("m"), c.from, c.to, c.step, c.fresh)
		if text := rowsText(said.Rows); said.Err != 0 || text != c.rows {
			t.Errorf("%s: Err %d, %s, not %s", c.name, said.Err, text, c.rows)
		}
		if text := cacheText(next); text != c.next {
			t.Errorf("%s: next is\n%s, not\n%s", c.name, text, c.next)
		}
	}
	// A question is found by its text, in whatever way it was told.
	_, next := checkAsk(t, []impl.Cached{entry("m + 1", 0, 20, 10, "{} 0:7")}, list, plainQuery("( m+(1))"), 0, 0, 10, 50)
	if cacheText(next) != "m + 1 0..20/10: {} 0:7" {
		t.Error(cacheText(next))
	}
	said, next := checkAsk(t, []impl.Cached{entry("time()", 0, 20, 10, "{} 10:77")}, nil, plainQuery("time()"), 10, 30, 10, 50)
	if rowsText(said.Rows) != "{} 10:77 30:30" || cacheText(next) != "time() 0..30/10: {} 10:77 30:30" {
		t.Error(rowsText(said.Rows), cacheText(next))
	}
}

// Errs ahead of the hit and behind it: the first one counts, and the cache stays as it is.
func TestAskedWithCachesAndFaults(t *testing.T) {
	list := plainSeries("m{a=1} 0:5; m{a=2} 25:6")
	cache := func(ask string) []impl.Cached {
		return []impl.Cached{entry("m", 0, 0, 5, "m{a=1} 0:5"), entry(ask, 10, 20, 5, "{} 10:1 20:1"), entry("n", 10, 20, 5, "")}
	}
	for _, c := range []struct {
		ask      string
		from, to int
		err      int
	}{
		{"100 / (time() - 5)", 10, 30, 0}, {"100 / (time() - 5)", 5, 30, 5}, {"100 / (time() - 5)", 0, 10, 5}, {"100 / (time() - 25)", 0, 20, 0}, {"100 / (time() - 25)", 0, 30, 5}, {"100 / (time() - 25)", 15, 40, 5}, {"100 / (time() - 15)", 0, 30, 0}, {"100 / (time() - 15)", 15, 15, 0},
		// By 0 at 5 alone, too many matches from 25 on.
		{"vector(100 / (time() - 5)) or vector(1) + on() m", 0, 30, 5}, {"vector(100 / (time() - 5)) or vector(1) + on() m", 10, 30, 4}, {"vector(100 / (time() - 5)) or vector(1) + on() m", 10, 20, 0}, {"vector(100 / (time() - 5)) or vector(1) + on() m", 20, 40, 4}, {"vector(100 / (time() - 30)) or vector(1) + on() m", 20, 40, 4}, {"vector(100 / (time() - 25)) or vector(1) + on() m", 20, 40, 5},
		{"sum_over((1)[2000:1])", 10, 20, 0}, {"1 / 0", 10, 20, 0}, {"1 / 0", 10, 25, 5}, {"1 / 0", 5, 10, 5}, {"1 / 0", 0, 4, 5},
	} {
		was := cache(c.ask)
		said, next := checkAsk(t, was, list, plainQuery(c.ask), c.from, c.to, 5, 100)
		if said.Err != c.err || (c.err > 0) != same(next, was) {
			t.Errorf("%s from %d to %d: Err %d, not %d, and %s", c.ask, c.from, c.to, said.Err, c.err, cacheText(next))
		}
	}
	// Without a hit too.
	if said, next := checkAsk(t, nil, list, plainQuery("1 / 0"), 0, 10, 5, 100); said.Err != impl.ErrZero || len(next) > 0 {
		t.Error(said, next)
	}
}

func TestWhatMayBeAskedWithCaches(t *testing.T) {
	list, up := plainSeries("m{a=1} 0:5 10:7; n 0:1"), plainQuery("m")
	cache := []impl.Cached{entry("m", 0, 10, 10, "m{a=1} 0:6 10:8"), entry("n", 0, 0, 1, "n 0:1")}
	refused := func(name string, said impl.RangeRes, next []impl.Cached) {
		t.Helper()
		if !same(said, impl.RangeRes{Err: impl.ErrAsked}) || !same(next, cache) {
			t.Errorf("%s: %+v and %s", name, said, cacheText(next))
		}
	}
	for i, l := range badSeries() {
		said, next := checkAsk(t, cache, l, up, 0, 10, 10, 50)
		refused(fmt.Sprint("list ", i), said, next)
	}
	for i, q := range [][]impl.Query{nil, {{}}, plainQuery("m[5]"), plainQuery("m[5:1]"), plainQuery(`"x"`), plainQuery("1 == 1"), plainQuery("rate(m)"), wideQuery(61), deepQuery(13), append(slices.Clone(up), up...), longVector(maxQuery + 1), longVector(5000)} {
		said, next := checkAsk(t, cache, list, q, 0, 10, 10, 50)
		refused(fmt.Sprint("question ", i), said, next)
	}
	// As long as a text may be it is asked, and one byte more can still be asked without a cache.
	if said, next := checkAsk(t, cache, list, longVector(maxQuery), 0, 10, 10, 50); said.Err != 0 || len(next) != 3 || len(next[0].Text) != maxQuery {
		t.Errorf("a long text: %d, %d", said.Err, len(next))
	}
	if said := impl.EvalRange(list, longVector(maxQuery+1), 0, 10, 10); said.Err != 0 || len(said.Rows) == 0 {
		t.Errorf("a long text without a cache: %+v", said)
	}
	for _, c := range [][3]int{{10, 9, 1}, {0, 10, 0}, {0, 10, -1}, {0, 10, maxTime + 1}, {0, 10, math.MinInt}, {0, 10, math.MaxInt}, {-1, 10, 1}, {-10, -1, 1}, {0, maxTime + 1, maxTime}, {maxTime + 1, maxTime + 1, 1}, {math.MinInt, math.MaxInt, 1}, {0, 500, 1}, {0, 5000, 10}} {
		said, next := checkAsk(t, cache, list, up, c[0], c[1], c[2], 50)
		refused(fmt.Sprint("steps ", c), said, next)
	}
	for _, fresh := range []int{-1, maxTime + 1, math.MinInt, math.MaxInt} {
		said, next := checkAsk(t, cache, list, up, 0, 10, 10, fresh)
		refused(fmt.Sprint("fresh ", fresh), said, next)
	}
	// Of a cache that is not good nothing is left, whatever else is asked.
	for i, bad := range [][]impl.Cached{{{}}, {cache[0], {}}, {entry("m ", 0, 10, 10, "")}, {entry("m", 0, 11, 10, "")}, slices.Repeat(cache[:1], 21), {entry("m[5]", 0, 10, 10, "")}, {entry("n", 0, 10, 10, "n 5:1")}} {
		for _, fresh := range []int{50, -1} {
			said, next := checkAsk(t, bad, list, up, 0, 10, 10, fresh)
			if !same(said, impl.RangeRes{Err: impl.ErrAsked}) || len(next) > 0 {
				t.Errorf("cache %d: %+v and %s", i, said, cacheText(next))
			}
		}
	}
	for _, fresh := range []int{0, maxTime} {
		if said, _ := checkAsk(t, cache, list, up, 0, 10, 10, fresh); said.Err != 0 {
			t.Errorf("fresh %d: %d", fresh, said.Err)
		}
	}
	if said, next := checkAsk(t, nil, list, up, 0, maxTime, maxTime, maxTime); rowsText(said.Rows) != "m{a=1} 0:5" || cacheText(next) != "m 0..1000000000000/1000000000000: m{a=1} 0:5" {
		t.Error(said, cacheText(next))
	}
}

// clockRows are what time() says from one step to another.
func clockRows(from int, to int, step int) []impl.Series {
	row := impl.Series{}
	for time := from; time <= to; time += step {
		row.Samples = append(row.Samples, impl.Sample{Time: time, Value: time})
	}
	return []impl.Series{row}
}

func TestCachesAtTheirLimits(t *testing.T) {
	clock := func(from int, to int, step int) impl.Cached {
		return impl.Cached{Text: "time()", Step: step, From: from, To: to, Rows: clockRows(from, to, step)}
	}
	q := plainQuery("time()")
	for _, c := range []struct {
		hit             impl.Cached
		from, to, fresh int
		want            impl.Cached
	}{
		// All steps together: just as many as may be, and one more.
		{clock(0, 399, 1), 300, 499, 999, clock(0, 499, 1)}, {clock(0, 399, 1), 300, 500, 999, clock(300, 500, 1)}, {clock(100, 499, 1), 0, 200, 999, clock(0, 499, 1)}, {clock(100, 500, 1), 0, 200, 999, clock(0, 200, 1)}, {clock(100, 200, 1), 0, 499, 999, clock(0, 499, 1)}, {clock(0, 499, 1), 100, 200, 999, clock(0, 499, 1)}, {clock(0, 499, 1), 499, 499, 999, clock(0, 499, 1)}, {clock(0, 499, 1), 499, 500, 999, clock(499, 500, 1)}, {clock(0, 499, 1), 0, 499, 999, clock(0, 499, 1)}, {clock(1, 500, 1), 0, 1, 999, clock(0, 1, 1)}, {clock(250, 749, 1), 0, 499, 999, clock(0, 499, 1)}, {clock(0, 4990, 10), 4990, 4999, 9999, clock(0, 4990, 10)}, {clock(0, 4990, 10), 4990, 5000, 9999, clock(4990, 5000, 10)},
		// Those above fresh count too, though they are not kept.
		{clock(0, 399, 1), 300, 499, 450, clock(0, 450, 1)}, {clock(0, 399, 1), 300, 500, 450, clock(300, 450, 1)}, {clock(0, 399, 1), 300, 500, 350, clock(300, 350, 1)}, {clock(0, 399, 1), 300, 500, 300, clock(300, 300, 1)}, {clock(0, 399, 1), 300, 500, 299, impl.Cached{}}, {clock(0, 399, 1), 300, 499, 299, clock(0, 299, 1)}, {clock(0, 499, 1), 499, 500, 100, impl.Cached{}}, {clock(100, 500, 1), 0, 200, 150, clock(0, 150, 1)}, {clock(100, 500, 1), 0, 100, 50, clock(0, 50, 1)},
	} {
		step := c.hit.Step
		said, next := checkAsk(t, []impl.Cached{c.hit}, nil, q, c.from, c.to, step, c.fresh)
		var want []impl.Cached
		if c.want.Step > 0 {
			want = []impl.Cached{c.want}
		}
		if !same(next, want) || !same(said.Rows, clockRows(c.from, c.to, step)) {
			t.Errorf("%d..%d/%d, asked from %d to %d, fresh %d: %s, not %d..%d", c.hit.From, c.hit.To, step, c.from, c.to, c.fresh, shortly(cacheText(next)), c.want.From, c.want.To)
		}
	}
	// Entries: as many as may be, with and without a hit.
	var full []impl.Cached
	for i := range 20 {
		full = append(full, entry(fmt.Sprint(i), 0, 10, 10, fmt.Sprintf("{} 0:%d 10:%d", i, i)))
	}
	texts := func(cache []impl.Cached) string {
		var out []string
		for _, c := range cache {
			out = append(out, c.Text)
		}
		return strings.Join(out, " ")
	}
	for _, c := range []struct {
		many     int
		ask      string
		to, fore int
		want     string
	}{
		{20, "20", 10, 10, "20 0 1 2 3 4 5 6 7 8 9 10 11 12 13 14 15 16 17 18"}, {20, "0", 10, 10, "0 1 2 3 4 5 6 7 8 9 10 11 12 13 14 15 16 17 18 19"}, {20, "19", 10, 10, "19 0 1 2 3 4 5 6 7 8 9 10 11 12 13 14 15 16 17 18"}, {20, "7", 20, 10, "7 0 1 2 3 4 5 6 8 9 10 11 12 13 14 15 16 17 18 19"}, {19, "20", 10, 10, "20 0 1 2 3 4 5 6 7 8 9 10 11 12 13 14 15 16 17 18"}, {18, "20", 10, 10, "20 0 1 2 3 4 5 6 7 8 9 10 11 12 13 14 15 16 17"}, {3, "1", 10, 10, "1 0 2"}, {0, "1", 10, 10, "1"},
	} {
		_, next := checkAsk(t, full[:c.many], nil, plainQuery(c.ask), 0, c.to, 10, c.fore)
		if texts(next) != c.want {
			t.Errorf("%s of %d: %s, not %s", c.ask, c.many, texts(next), c.want)
		}
	}
	// Where no entry is put first, none has to go but the one that hits.
	if _, next := checkAsk(t, full, nil, plainQuery("20"), 10, 20, 10, 5); !same(next, full) {
		t.Error(texts(next))
	}
	if _, next := checkAsk(t, full, nil, plainQuery("7"), 10, 20, 10, 5); texts(next) != "7 0 1 2 3 4 5 6 8 9 10 11 12 13 14 15 16 17 18 19" || next[0].To != 0 {
		t.Error(texts(next))
	}
	late := slices.Clone(full)
	late[7] = entry("7", 10, 20, 10, "{} 10:7 20:7")
	if _, next := checkAsk(t, late, nil, plainQuery("7"), 10, 20, 10, 5); texts(next) != "0 1 2 3 4 5 6 8 9 10 11 12 13 14 15 16 17 18 19" {
		t.Error(texts(next))
	}
}

// What is touched is counted ahead of the hit and behind it, for each of them alone.
func TestCachesCountByParts(t *testing.T) {
	list, q := presentSeries(199, 600), plainQuery("m")
	middle := func(from int, to int) []impl.Cached {
		return []impl.Cached{{Text: "m", Step: 1, From: from, To: to}}
	}
	for _, c := range []struct {
		cache    []impl.Cached
		from, to int
		err      int
	}{
		{nil, 0, 249, 0}, {nil, 0, 250, 2}, {middle(250, 250), 0, 499, 0}, {middle(250, 250), 0, 500, 1}, {middle(251, 251), 0, 499, 2}, {middle(249, 249), 0, 499, 0}, {middle(248, 248), 0, 499, 2}, {middle(0, 249), 0, 499, 0}, {middle(0, 248), 0, 499, 2}, {middle(250, 499), 0, 499, 0}, {middle(251, 499), 0, 499, 2}, {middle(0, 499), 0, 499, 0},
	} {
		said, next := impl.AskCached(c.cache, list, q, c.from, c.to, 1, 600)
		if said.Err != c.err || c.err > 0 && !same(next, c.cache) || c.err == 0 && (len(next) != 1 || next[0].From != c.from || next[0].To != c.to) {
			t.Errorf("%d to %d with %s: Err %d, not %d", c.from, c.to, cacheText(c.cache), said.Err, c.err)
		}
	}
}

// cache is a good cache whose entries say anything, of few questions and few steps, so that they hit.
func (a evalAsker) cache(texts []string) []impl.Cached {
	var out []impl.Cached
	for range oneOf(a.Rand, 0, 1, 2, 3, 5, 20) {
		c := impl.Cached{Text: oneOf(a.Rand, texts...), Step: oneOf(a.Rand, 5, 10, 10, 10), From: 5 * a.Intn(40)}
		c.To = c.From + c.Step*a.Intn(12)
		book := newRowBook()
		for range a.Intn(4) {
			row := impl.Series{Labels: modelLabels{"_name": oneOf(a.Rand, "", "m", "n"), "a": oneOf(a.Rand, "", "1", "2")}.list()}
			for time := c.From; time <= c.To; time += c.Step {
				if likely(a.Rand, 2) {
					row.Samples = append(row.Samples, impl.Sample{Time: time, Value: 1000 + a.Intn(1000)})
				}
			}
			if row.Samples != nil {
				book.write([]impl.Series{row})
			}
		}
		c.Rows = seriesOf(book.labels, book.values)
		out = append(out, c)
	}
	return out
}

// Whatever a good cache says, it is taken from it, and what is kept is as told.
func TestCachesAtRandom(t *testing.T) {
	a := newEvalAsker(178)
	hits, gone, faults := 0, 0, 0
	for range 4000 {
		texts := []string{"m", "n", "time()", "sum(m)", "100 / (time() - 50)"}[:2+a.Intn(4)]
		cache, ask := a.cache(texts), oneOf(a.Rand, texts...)
		from, step := 5*a.Intn(40), oneOf(a.Rand, 5, 10, 10)
		to := from + step*a.Intn(14) + a.Intn(step)
		said, next := checkAsk(t, cache, a.list(), plainQuery(ask), from, to, step, oneOf(a.Rand, 0, from, to, a.Intn(400), maxTime))
		if len(next) == len(cache) && len(cache) < 20 && said.Err == 0 {
			hits++
		}
		if len(next) < len(cache) {
			gone++
		}
		faults += min(1, said.Err)
	}
	if hits < 500 || gone < 50 || faults < 20 {
		t.Errorf("%d hits, %d gone, %d faults", hits, gone, faults)
	}
}

// Any question, asked again and again over other steps.
func TestAnyQuestionWithACache(t *testing.T) {
	a := newEvalAsker(179)
	hits := 0
	for range 500 {
		list := a.list()
		asks := [][]impl.Query{a.question(), a.question(), a.question()}
		var cache []impl.Cached
		for range 6 {
			from, q := 10*a.Intn(50), oneOf(a.Rand, asks...)
			to, fresh := from+a.Intn(100), a.Intn(600)
			said, next := checkAsk(t, cache, list, q, from, to, 10, fresh)
			if want := impl.EvalRange(list, q, from, to, 10); !same(said, want) && want.Err != impl.ErrTouched {
				t.Fatalf("%s from %d to %d: %s, not %s", impl.QueryText(q), from, to, shortly(said), shortly(want))
			}
			if said.Err == 0 && len(next) == len(cache) && len(next) > 0 {
				hits++
			}
			if cache = next; !impl.HonestCached(cache, list) && impl.EvalRange(list, q, cache[0].From, cache[0].To, 10).Err != impl.ErrTouched {
				t.Fatalf("%s is not honest", cacheText(cache))
			}
		}
	}
	if hits < 200 {
		t.Errorf("only %d hits", hits)
	}
}

// later is a list with a sample more at a time of some of its series, and of a new one.
func (a evalAsker) later(list []impl.Series, time int) []impl.Series {
	book := newRowBook()
	book.write(list)
	for _, s := range append(slices.Clone(list), a.list()[0]) {
		if likely(a.Rand, 2) {
			book.write([]impl.Series{{Labels: s.Labels, Samples: samplesAt(oneOf(a.Rand, a.value(), a.value(), math.MinInt), time)}})
		}
	}
	return seriesOf(book.labels, book.values)
}

// listUpTo is a list without what is behind a time.
func listUpTo(list []impl.Series, time int) []impl.Series {
	book := newRowBook()
	for _, s := range list {
		if l := slices.DeleteFunc(slices.Clone(s.Samples), func(x impl.Sample) bool { return x.Time > time }); len(l) > 0 {
			book.write([]impl.Series{{Labels: s.Labels, Samples: l}})
		}
	}
	return seriesOf(book.labels, book.values)
}

// Promise 17: with an honest cache a question says what it says without one, and the cache stays honest, also when more samples come behind what was fresh.
func TestHonestCachesStayHonest(t *testing.T) {
	a := newEvalAsker(1710)
	many, kept, wide := 0, 0, 0
	for range 250 {
		now := 100 + a.Intn(100)
		list := listUpTo(a.list(), now)
		var asks [][]impl.Query
		for len(asks) < 3 {
			q := a.question()
			fixed := slices.ContainsFunc(q, func(x impl.Query) bool { return x.Fixed })
			if kind := kindModel(q); !fixed && (kind == "number" || kind == "vector") {
				asks = append(asks, q)
			}
		}
		var cache []impl.Cached
		for range 8 {
			q := oneOf(a.Rand, asks...)
			from := max(0, 10*((now-a.Intn(200))/10))
			to := from + a.Intn(120)
			// Times that are not over yet are asked for too, but not kept.
			said, next := impl.AskCached(cache, list, q, from, to, 10, now)
			if want := impl.EvalRange(list, q, from, to, 10); !same(said, want) && want.Err != impl.ErrTouched {
				t.Fatalf("%s from %d to %d at %d with %s: %s, not %s", impl.QueryText(q), from, to, now, cacheText(cache), shortly(said), shortly(want))
			}
			cache = next
			many++
			kept += len(cache)
			if to > now {
				wide++
			}
			now += 1 + a.Intn(30)
			list = a.later(list, now)
			if !impl.HonestCached(cache, list) {
				t.Fatalf("at %d %s is not honest", now, cacheText(cache))
			}
		}
	}
	if kept < many || wide < 300 {
		t.Errorf("%d asked, %d kept, %d behind what is fresh", many, kept, wide)
	}
}

// Where more was kept than is fresh, or a fixed time was asked for, later samples show that the cache is not honest any more.
func TestCachesThatKeepTooMuch(t *testing.T) {
	now, then := plainSeries("m 0:1 10:2"), plainSeries("m 0:1 10:2 20:3")
	for ask, honest := range map[string]bool{"m": false, "sum(m)": false, "m @ 20": false, "5": true} {
		_, cache := checkAsk(t, nil, now, plainQuery(ask), 0, 30, 10, 30)
		if !checkHonest(t, cache, now) || checkHonest(t, cache, then) != honest {
			t.Errorf("%s with all kept: %s", ask, cacheText(cache))
		}
	}
	for ask, honest := range map[string]bool{"m": true, "sum(m)": true, "m @ 20": false, "m offset 5": true, "5": true} {
		_, cache := checkAsk(t, nil, now, plainQuery(ask), 0, 30, 10, 10)
		if !checkHonest(t, cache, now) || checkHonest(t, cache, then) != honest {
			t.Errorf("%s with what is fresh kept: %s", ask, cacheText(cache))
		}
	}
	// A hit that has steps which are not fresh is cut, and is honest again when it was asked for the rest.
	_, cache := checkAsk(t, nil, now, plainQuery("m"), 0, 30, 10, 30)
	_, cache = checkAsk(t, cache, now, plainQuery("m"), 0, 0, 10, 10)
	if cacheText(cache) != "m 0..10/10: m 0:1 10:2" || !checkHonest(t, cache, then) {
		t.Errorf("cut: %s", cacheText(cache))
	}
}

// Promise 27: each function of plans answers at any arguments, writes nowhere and shares no memory.
func TestPlansOfAnything(t *testing.T) {
	a := newEvalAsker(1711)
	edges := []int{0, 1, -1, 50, 51, 300, 499, 500, maxTime - 1, maxTime, maxTime + 1, math.MaxInt, math.MinInt}
	edge := func(n int) int { return oneOf(a.Rand, a.Intn(n), a.Intn(n), oneOf(a.Rand, edges...)) }
	lists := append(badSeries(), nil)
	for range 1500 {
		q := oneOf(a.Rand, a.question, a.asker.question)()
		for range a.Intn(3) {
			a.change(&q[a.Intn(len(q))])
		}
		if likely(a.Rand, 6) {
			q = slices.Delete(q, 0, 1)
		}
		list := a.list()
		if likely(a.Rand, 6) {
			list = oneOf(a.Rand, lists...)
		}
		checkFold(t, q)
		checkShardable(t, q)
		needs := checkNeeds(t, q, edge(500), edge(700))
		if likely(a.Rand, 4) {
			needs = append(needs, impl.Need{Match: oneOf(a.Rand, badMatchers()...), From: edge(500), To: edge(700)})
		}
		checkTrim(t, list, append(needs, impl.Need{From: edge(500), To: edge(700)}))
		checkSpans(t, edge(500), edge(700), edge(100), edge(100))
		if slices.ContainsFunc(q, func(x impl.Query) bool { return x.Kind == impl.QSub && x.Num > 2000 }) {
			continue
		}
		checkEvalSplit(t, list, q, edge(300), edge(600), edge(100), edge(100))
		checkSharded(t, list, q, edge(600), edge(50))
		cache := a.cache([]string{"m", "n", "time()"})
		if text := impl.QueryText(q); text != "" && likely(a.Rand, 2) {
			cache = append(cache, impl.Cached{Text: text, Step: edge(50), From: edge(300), To: edge(600)})
		}
		if len(cache) > 0 && likely(a.Rand, 4) {
			c := &cache[a.Intn(len(cache))]
			*oneOf(a.Rand, &c.Step, &c.From, &c.To) = edge(300)
		}
		checkGoodCached(t, cache)
		checkHonest(t, cache, list)
		checkAsk(t, cache, list, q, edge(300), edge(600), edge(100), edge(600))
	}
	huge := make([]impl.Cached, 1<<16)
	if impl.GoodCached(huge) || impl.HonestCached(huge, nil) {
		t.Error("very many entries")
	}
	if got := impl.TrimSeries(plainSeries("m 0:1"), make([]impl.Need, 1<<16)); len(got) > 0 {
		t.Error("very many needs")
	}
}

// Each answer is new: what is written into one shows in no other, nor in what it was made of.
func TestPlansAreNew(t *testing.T) {
	list := plainSeries("m{a=1} 0:1 10:2; m{a=2} 0:3 10:4")
	q := plainQuery(`sum by (a, b)(m{a!="x"} * 2) + on(a, b) group_left(c, d) count without (c)(m{a!="x"})`)
	cache := []impl.Cached{entry("m", 0, 10, 10, "m{a=1} 0:1 10:2; m{a=2} 0:3 10:4"), entry("n", 0, 10, 10, "n 0:1")}
	checkOwn(t, [][]impl.Query{impl.FoldQuery(q), impl.FoldQuery(q)}, q)
	checkOwn(t, [][]impl.Need{impl.NeedsOf(q, 0, 10), impl.NeedsOf(q, 0, 10)}, q)
	checkOwn(t, [][]impl.Span{impl.SplitSpans(0, 10, 1, 3), impl.SplitSpans(0, 10, 1, 3)})
	checkOwn(t, [][]impl.Series{impl.TrimSeries(list, []impl.Need{{To: 10}}), impl.TrimSeries(list, []impl.Need{{To: 10}})}, list)
	checkOwn(t, []impl.RangeRes{impl.EvalSplit(list, q, 0, 10, 5, 5), impl.EvalSplit(list, q, 0, 10, 5, 5)}, list, q)
	sum := plainQuery("sum by (a)(m)")
	checkOwn(t, []impl.EvalRes{impl.EvalSharded(list, sum, 5, 3), impl.EvalSharded(list, sum, 5, 3)}, list, sum)
	for _, fresh := range []int{10, 5, -1} {
		var first, second cachedAnswer
		first.Said, first.Next = impl.AskCached(cache, list, plainQuery("m"), 0, 20, 10, fresh)
		second.Said, second.Next = impl.AskCached(cache, list, plainQuery("m"), 0, 20, 10, fresh)
		checkOwn(t, []cachedAnswer{first, second}, cache, list)
		was := cacheText(second.Next) + rowsText(second.Said.Rows)
		for _, rows := range [][]impl.Series{first.Said.Rows, first.Next[0].Rows, first.Next[1].Rows} {
			for _, row := range rows {
				scribble(row.Labels)
				clear(row.Samples)
			}
		}
		if cacheText(second.Next)+rowsText(second.Said.Rows) != was {
			t.Errorf("fresh %d: %s", fresh, cacheText(second.Next))
		}
	}
}
