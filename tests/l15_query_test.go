package tests

import (
	"fmt"
	"math"
	"math/rand"
	"reflect"
	"regexp"
	"slices"
	"strconv"
	"strings"
	"testing"

	"loop.example/g00039/impl"
)

const maxQuery = 4000

var (
	functionList = strings.Fields("abs absent avg_over changes clamp count_over delta hist_quantile label_join label_set last_over max_over min_over predict quantile_over rate resets rise scalar sum_over time timestamp vector")
	wordList     = append(strings.Fields("and avg bool bottomk by count group_left group_right ignoring max min offset on or quantile sum topk unless without"), functionList...)
	aggList      = strings.Fields("none sum min max avg count topk bottomk quantile")
	opList       = strings.Fields("none + - * / % == != > < >= <= and unless or")
	opLevels     = []int{0, 4, 4, 5, 5, 5, 3, 3, 3, 3, 3, 3, 2, 2, 1}
	// rowFields are the fields that each kind has.
	rowFields = []string{"none", "Num", "Text", "Text Match Offset Fixed At", "Num", "Num Step Offset Fixed At", "", "Op Bool By Names Side Extra", "Op By Names", "Text"}
)

func isWithin(n int, least int, most int) bool {
	return n >= least && n <= most
}

// choiceModel says whether names may stand beside By or Side.
func choiceModel(way int, names []string) bool {
	for i, name := range names {
		if !isNameModel(name) || i > 0 && names[i-1] >= name {
			return false
		}
	}
	return isWithin(way, 0, 2) && len(names) <= []int{0, 10, 10}[way]
}

// fieldsModel says whether a row has no field that its kind does not have.
func fieldsModel(q impl.Query) bool {
	v := reflect.ValueOf(q)
	for i := range v.NumField() {
		name, x := v.Type().Field(i).Name, v.Field(i)
		told := append(strings.Fields(rowFields[q.Kind]), "Kind", "Kids")
		if !slices.Contains(told, name) && !x.IsZero() && (x.Kind() != reflect.Slice || x.Len() > 0) {
			return false
		}
	}
	return true
}

func goodRowModel(q impl.Query) bool {
	if !isWithin(q.Kind, 1, 9) || !fieldsModel(q) || !isWithin(q.Offset, 0, maxTime) || !isWithin(q.At, 0, maxTime) || q.At > 0 && !q.Fixed {
		return false
	}
	switch q.Kind {
	case impl.QNum:
		return q.Num >= 0 && q.Kids == 0
	case impl.QText:
		return len(q.Text) <= 100 && isPrintedModel(q.Text) && q.Kids == 0
	case impl.QSelect:
		named := slices.ContainsFunc(q.Match, func(m impl.Matcher) bool { return m.Name == "_name" })
		nameOk := q.Text == "" && len(q.Match) > 0 || isNameModel(q.Text) && !slices.Contains(wordList, q.Text)
		return nameOk && !named && len(q.Match) < 10 && goodMatchersModel(q.Match) && q.Kids == 0
	case impl.QRange:
		return isWithin(q.Num, 1, maxTime) && q.Kids == 1
	case impl.QSub:
		return isWithin(q.Num, 1, maxTime) && isWithin(q.Step, 1, q.Num) && q.Kids == 1
	case impl.QNeg:
		return q.Kids == 1
	case impl.QOp:
		sided := q.Side == 0 || q.By > 0 && q.Op < 12
		return isWithin(q.Op, 1, 14) && choiceModel(q.By, q.Names) && choiceModel(q.Side, q.Extra) && sided && (!q.Bool || isWithin(q.Op, 6, 11)) && q.Kids == 2
	case impl.QAgg:
		return isWithin(q.Op, 1, 8) && choiceModel(q.By, q.Names) && q.Kids == []int{0, 1, 1, 1, 1, 1, 2, 2, 2}[q.Op]
	}
	return slices.Contains(functionList, q.Text) && isWithin(q.Kids, 0, 10)
}

// goodQueryModel goes through the nodes with a list of those around: how many kids of each are still to come.
func goodQueryModel(q []impl.Query) bool {
	if len(q) > 60 {
		return false
	}
	var around []int
	for i, x := range q {
		if i > 0 && len(around) == 0 || !goodRowModel(x) || len(around) == 12 {
			return false
		}
		if i > 0 && q[i-1].Kind == impl.QRange && x.Kind != impl.QSelect {
			return false
		}
		if len(around) > 0 {
			around[len(around)-1]--
		}
		around = append(around, x.Kids)
		for len(around) > 0 && around[len(around)-1] == 0 {
			around = around[:len(around)-1]
		}
	}
	return len(q) > 0 && len(around) == 0
}

func seriesTextModel(q impl.Query) string {
	if len(q.Match) == 0 {
		return q.Text
	}
	return q.Text + matchersTextModel(q.Match)
}

func whenTextModel(q impl.Query) string {
	out := ""
	if q.Offset > 0 {
		out = fmt.Sprint(" offset ", q.Offset)
	}
	if q.Fixed {
		out += fmt.Sprint(" @ ", q.At)
	}
	return out
}

func choiceTextModel(way int, names []string, words ...string) string {
	if way == 0 {
		return ""
	}
	return words[way-1] + strings.Join(names, ", ") + ")"
}

// toldPart is the text of a node, and of which level it is.
type toldPart struct {
	text  string
	level int
}

func (p toldPart) at(level int) string {
	if p.level < level {
		return "(" + p.text + ")"
	}
	return p.text
}

// longText tells a good question, however long its text is; from its last node on, so that the kids of each are told ahead of it.
func longText(q []impl.Query) string {
	var told []toldPart
	for i := len(q) - 1; i >= 0; i-- {
		x, p := q[i], toldPart{level: 7}
		kids := slices.Clone(told[len(told)-x.Kids:])
		told = told[:len(told)-x.Kids]
		slices.Reverse(kids)
		var list []string
		for _, kid := range kids {
			list = append(list, kid.text)
		}
		all := "(" + strings.Join(list, ", ") + ")"
		switch x.Kind {
		case impl.QNum:
			p.text = fmt.Sprint(x.Num)
		case impl.QText:
			p.text = quotedModel(x.Text)
		case impl.QSelect:
			p.text = seriesTextModel(x) + whenTextModel(x)
		case impl.QRange:
			p.text = fmt.Sprintf("%s[%d]%s", seriesTextModel(q[i+1]), x.Num, whenTextModel(q[i+1]))
		case impl.QSub:
			p.text = fmt.Sprintf("%s[%d:%d]%s", all, x.Num, x.Step, whenTextModel(x))
		case impl.QNeg:
			p = toldPart{"-" + kids[0].at(6), 6}
		case impl.QOp:
			sign := opList[x.Op]
			if x.Bool {
				sign += " bool"
			}
			sign += choiceTextModel(x.By, x.Names, " on(", " ignoring(") + choiceTextModel(x.Side, x.Extra, " group_left(", " group_right(")
			p.level = opLevels[x.Op]
			p.text = kids[0].at(p.level) + " " + sign + " " + kids[1].at(p.level+1)
		case impl.QAgg:
			p.text = aggList[x.Op] + choiceTextModel(x.By, x.Names, " by (", " without (") + all
		case impl.QCall:
			p.text = x.Text + all
		}
		told = append(told, p)
	}
	return told[0].text
}

func queryTextModel(q []impl.Query) string {
	if !goodQueryModel(q) {
		return ""
	}
	text := longText(q)
	if len(text) > maxQuery {
		return ""
	}
	return text
}

// kindRows are the rows of the chapter: the kind of all questions whose node and kids' kinds are told so.
var kindRows = []struct {
	form *regexp.Regexp
	kind string
}{
	{regexp.MustCompile(`^1\(\)$`), "number"},
	{regexp.MustCompile(`^2\(\)$`), "text"},
	{regexp.MustCompile(`^3\(\)$`), "vector"},
	{regexp.MustCompile(`^4\(vector\)$`), "range"},
	{regexp.MustCompile(`^5\((vector|number)\)$`), "range"},
	{regexp.MustCompile(`^6\(number\)$`), "number"},
	{regexp.MustCompile(`^6\(vector\)$`), "vector"},
	{regexp.MustCompile(`^7 [-+*/%] none\(number,number\)$`), "number"},
	{regexp.MustCompile(`^7 [=!><]=? bool none\(number,number\)$`), "number"},
	{regexp.MustCompile(`^7 .*\(vector,vector\)$`), "vector"},
	{regexp.MustCompile(`^7 ([-+*/%]|[=!><]=?( bool)?) none\((number,vector|vector,number)\)$`), "vector"},
	{regexp.MustCompile(`^8 (sum|min|max|avg|count)\(vector\)$`), "vector"},
	{regexp.MustCompile(`^8 (topk|bottomk|quantile)\(number,vector\)$`), "vector"},
	{regexp.MustCompile(`^9 (avg_over|changes|count_over|delta|last_over|max_over|min_over|rate|resets|rise|sum_over)\(range\)$`), "vector"},
	{regexp.MustCompile(`^9 (abs|absent|timestamp)\(vector\)$`), "vector"},
	{regexp.MustCompile(`^9 clamp\(vector,number,number\)$`), "vector"},
	{regexp.MustCompile(`^9 hist_quantile\(number,vector\)$`), "vector"},
	{regexp.MustCompile(`^9 label_join\(vector,text,text(,text)+\)$`), "vector"},
	{regexp.MustCompile(`^9 label_set\(vector,text,text,text,text\)$`), "vector"},
	{regexp.MustCompile(`^9 predict\(range,number\)$`), "vector"},
	{regexp.MustCompile(`^9 quantile_over\(number,range\)$`), "vector"},
	{regexp.MustCompile(`^9 vector\(number\)$`), "vector"},
	{regexp.MustCompile(`^9 scalar\(vector\)$`), "number"},
	{regexp.MustCompile(`^9 time\(\)$`), "number"},
}

// kindForm tells a node and the kinds of its kids.
func kindForm(x impl.Query, kinds []string) string {
	line := fmt.Sprint(x.Kind)
	switch x.Kind {
	case impl.QOp:
		line += " " + opList[x.Op]
		if x.Bool {
			line += " bool"
		}
		line += []string{" none", " on", " ignoring"}[x.By]
	case impl.QAgg:
		line += " " + aggList[x.Op]
	case impl.QCall:
		line += " " + x.Text
	}
	return line + "(" + strings.Join(kinds, ",") + ")"
}

func kindModel(q []impl.Query) string {
	if !goodQueryModel(q) {
		return ""
	}
	var kinds []string
	for i := len(q) - 1; i >= 0; i-- {
		first := len(kinds) - q[i].Kids
		slices.Reverse(kinds[first:])
		line := kindForm(q[i], kinds[first:])
		kinds = append(kinds[:first], "none")
		for _, row := range kindRows {
			if row.form.MatchString(line) {
				kinds[first] = row.kind
			}
		}
		if kinds[first] == "none" {
			return ""
		}
	}
	return kinds[0]
}

// oneToken is the longest token at the beginning of a text.
var oneToken = regexp.MustCompile(`^(?:[0-9]+|[A-Za-z_][A-Za-z0-9_]*|"(?:[^"\\]|\\["\\])*"|==|!=|>=|<=|=~|!~|[(){}\[\],:@+*/%><=-])`)

// placed is a token and where it begins.
type placed struct {
	text string
	from int
}

// tokensModel cuts a text into tokens, as far as these go; and where it went no further, or its length.
func tokensModel(text string) ([]placed, int) {
	var out []placed
	for at := 0; at < len(text); {
		if text[at] == ' ' {
			at++
			continue
		}
		token := oneToken.FindString(text[at:])
		if _, whole := inDigitsModel(token); token == "" || isWithin(int(token[0]), '0', '9') && !whole {
			return out, at
		}
		out = append(out, placed{token, at})
		at += len(token)
	}
	return out, len(text)
}

// queryGrammar has the language as rules. In lower case and with a ' behind stand the classes of tokens, as themselves all other tokens.
const queryGrammar = `
L1 -> L2 | L1 or ON L2
L2 -> L3 | L2 and ON L3 | L2 unless ON L3
L3 -> L4 | L3 COMPARE BOOL SIDED L4
L4 -> L5 | L4 + SIDED L5 | L4 - SIDED L5
L5 -> L6 | L5 * SIDED L6 | L5 / SIDED L6 | L5 % SIDED L6
L6 -> L7 | - L6
L7 -> ALONE | SERIES [ num' ] WHEN
ALONE -> num' | text' | ( L1 ) | SERIES WHEN | AGG | CALL | ALONE [ num' : num' ] WHEN
COMPARE -> == | != | > | < | >= | <=
BOOL -> | bool
ONE -> on NAMES | ignoring NAMES
ON -> | ONE
SIDED -> | ONE | ONE group_left NAMES | ONE group_right NAMES
NAMES -> ( ) | ( WORDS )
WORDS -> word' | WORDS , word'
SERIES -> name' | name' BRACES | BRACES
BRACES -> { } | { MATCHERS }
MATCHERS -> MATCHER | MATCHERS , MATCHER
MATCHER -> word' = text' | word' != text' | word' =~ text' | word' !~ text'
WHEN -> | offset num' | @ num' | offset num' @ num' | @ num' offset num'
AGG -> one' BY ( L1 ) | two' BY ( L1 , L1 )
BY -> | by NAMES | without NAMES
CALL -> function' ( ) | function' ( KIDS )
KIDS -> L1 | KIDS , L1
`

// rule is a line's alternative: what its left side may be.
type rule struct {
	left  string
	right []string
}

// grammar has the rules of each left side, and says which left sides may be nothing.
type grammar struct {
	rules  []rule
	of     map[string][]int
	opened map[string]bool
}

var questions = readGrammar(queryGrammar)

func readGrammar(text string) grammar {
	g := grammar{of: map[string][]int{}, opened: map[string]bool{}}
	for line := range strings.Lines(strings.TrimSpace(text)) {
		left, right, _ := strings.Cut(line, " ->")
		for _, one := range strings.Split(right, "|") {
			g.of[left] = append(g.of[left], len(g.rules))
			g.rules = append(g.rules, rule{left, strings.Fields(one)})
			g.opened[left] = g.opened[left] || strings.TrimSpace(one) == ""
		}
	}
	return g
}

// state is a rule of which so much has been read, from a place on.
type state struct {
	rule, done, from int
}

// chart has, for each place between tokens, all states that are possible there.
type chart [][]state

// closed adds to the states at the last place all that follow from them.
func (c chart) closed() chart {
	here := len(c) - 1
	seen := map[state]bool{}
	add := func(s state) {
		if !seen[s] {
			seen[s] = true
			c[here] = append(c[here], s)
		}
	}
	first := c[here]
	c[here] = nil
	for _, s := range first {
		add(s)
	}
	for i := 0; i < len(c[here]); i++ {
		s := c[here][i]
		r := questions.rules[s.rule]
		if s.done == len(r.right) {
			for _, around := range c[s.from] {
				if outer := questions.rules[around.rule]; around.done < len(outer.right) && outer.right[around.done] == r.left {
					add(state{around.rule, around.done + 1, around.from})
				}
			}
			continue
		}
		for _, number := range questions.of[r.right[s.done]] {
			add(state{number, 0, here})
		}
		if questions.opened[r.right[s.done]] {
			add(state{s.rule, s.done + 1, s.from})
		}
	}
	return c
}

func newChart() chart {
	var first []state
	for _, number := range questions.of["L1"] {
		first = append(first, state{number, 0, 0})
	}
	return chart{first}.closed()
}

// fitsClass says whether a token is what a rule has at a place.
func fitsClass(token string, class string) bool {
	isWord := isWithin(int(token[0]|32), 'a', 'z') || token[0] == '_'
	switch class {
	case "num'":
		return isWithin(int(token[0]), '0', '9')
	case "text'":
		return token[0] == '"'
	case "word'":
		return isWord
	case "name'":
		return isWord && !slices.Contains(wordList, token)
	case "function'":
		return slices.Contains(functionList, token)
	case "one'":
		return slices.Contains(aggList[1:6], token)
	case "two'":
		return slices.Contains(aggList[6:], token)
	}
	return class == token
}

// behind is the chart with one more token; false where it can't stand there.
func (c chart) behind(token string) (chart, bool) {
	var next []state
	for _, s := range c[len(c)-1] {
		if r := questions.rules[s.rule]; s.done < len(r.right) && fitsClass(token, r.right[s.done]) {
			next = append(next, state{s.rule, s.done + 1, s.from})
		}
	}
	if len(next) == 0 {
		return nil, false
	}
	return append(slices.Clone(c), next).closed(), true
}

// isEnded says whether the tokens so far are a whole question.
func (c chart) isEnded() bool {
	return slices.ContainsFunc(c[len(c)-1], func(s state) bool {
		r := questions.rules[s.rule]
		return r.left == "L1" && s.done == len(r.right) && s.from == 0
	})
}

// queryTree is a node and the nodes of its kids, as a list.
func queryTree(row impl.Query, kids ...[]impl.Query) []impl.Query {
	row.Kids = len(kids)
	return append([]impl.Query{row}, slices.Concat(kids...)...)
}

// behindClose is the place behind the bracket that closes the one at a place.
func behindClose(tokens []string, at int) int {
	for open := 0; ; at++ {
		switch tokens[at] {
		case "(", "[", "{":
			open++
		case ")", "]", "}":
			open--
		}
		if open == 0 {
			return at + 1
		}
	}
}

// namesModel reads the names behind the word at a place, where it is one of these two; and tells which one it is, and the place behind the names.
func namesModel(tokens []string, at int, words ...string) (int, []string, int) {
	if at == len(tokens) || !slices.Contains(words, tokens[at]) {
		return 0, nil, at
	}
	behind := behindClose(tokens, at+1)
	var names []string
	for i := at + 2; i < behind-1; i += 2 {
		names = append(names, tokens[i])
	}
	slices.Sort(names)
	return slices.Index(words, tokens[at]) + 1, slices.Compact(names), behind
}

// behindOperand is the place behind all that belongs to what binds more than any sign of two sides.
func behindOperand(tokens []string, at int) int {
	for tokens[at] == "-" {
		at++
	}
	word := tokens[at]
	if word == "(" || word == "{" {
		at = behindClose(tokens, at)
	} else {
		_, _, at = namesModel(tokens, at+1, "by", "without")
	}
	if slices.Contains(functionList, word) || slices.Contains(aggList, word) || at < len(tokens) && tokens[at] == "{" {
		at = behindClose(tokens, at)
	}
	for at < len(tokens) {
		switch tokens[at] {
		case "[":
			at = behindClose(tokens, at)
		case "offset", "@":
			at += 2
		default:
			return at
		}
	}
	return at
}

// signModel reads a sign and all that belongs to it, and tells the place behind it.
func signModel(tokens []string, at int) (impl.Query, int) {
	q := impl.Query{Kind: impl.QOp, Op: slices.Index(opList, tokens[at]), Bool: tokens[at+1] == "bool"}
	at++
	if q.Bool {
		at++
	}
	q.By, q.Names, at = namesModel(tokens, at, "on", "ignoring")
	q.Side, q.Extra, at = namesModel(tokens, at, "group_left", "group_right")
	return q, at
}

func unquotedModel(token string) string {
	return strings.NewReplacer(`\\`, `\`, `\"`, `"`).Replace(token[1 : len(token)-1])
}

func numberModel(token string) int {
	n, _ := strconv.Atoi(token)
	return n
}

// cutWhen takes offset and @ off the end.
func cutWhen(tokens []string, q *impl.Query) []string {
	for len(tokens) > 2 {
		n := len(tokens) - 2
		switch tokens[n] {
		case "offset":
			q.Offset = numberModel(tokens[n+1])
		case "@":
			q.Fixed, q.At = true, numberModel(tokens[n+1])
		default:
			return tokens
		}
		tokens = tokens[:n]
	}
	return tokens
}

func selectTokens(tokens []string, q impl.Query) []impl.Query {
	q.Kind = impl.QSelect
	if tokens[0] != "{" {
		q.Text, tokens = tokens[0], tokens[1:]
	}
	for i := 1; i+2 < len(tokens); i += 4 {
		q.Match = append(q.Match, impl.Matcher{Name: tokens[i], Op: slices.Index([]string{"", "=", "!=", "=~", "!~"}, tokens[i+1]), Value: unquotedModel(tokens[i+2])})
	}
	return queryTree(q)
}

// kidTokens reads what stands between brackets, with `,` between.
func kidTokens(tokens []string) [][]impl.Query {
	var out [][]impl.Query
	for at := 1; at < len(tokens)-1; {
		end := at
		for end < len(tokens)-1 && tokens[end] != "," {
			if slices.Contains([]string{"(", "[", "{"}, tokens[end]) {
				end = behindClose(tokens, end)
			} else {
				end++
			}
		}
		out = append(out, treeOfTokens(tokens[at:end]))
		at = end + 1
	}
	return out
}

// aloneTokens reads what binds most.
func aloneTokens(tokens []string) []impl.Query {
	var when impl.Query
	tokens = cutWhen(tokens, &when)
	if last := len(tokens) - 1; tokens[last] == "]" {
		from := last
		for tokens[from] != "[" {
			from--
		}
		num := numberModel(tokens[from+1])
		if last-from == 2 {
			return queryTree(impl.Query{Kind: impl.QRange, Num: num}, selectTokens(tokens[:from], when))
		}
		when.Kind, when.Num, when.Step = impl.QSub, num, numberModel(tokens[from+3])
		return queryTree(when, treeOfTokens(tokens[:from]))
	}
	word := tokens[0]
	switch {
	case isWithin(int(word[0]), '0', '9'):
		return queryTree(impl.Query{Kind: impl.QNum, Num: numberModel(word)})
	case word[0] == '"':
		return queryTree(impl.Query{Kind: impl.QText, Text: unquotedModel(word)})
	case word == "(":
		return treeOfTokens(tokens[1 : len(tokens)-1])
	case slices.Contains(functionList, word):
		return queryTree(impl.Query{Kind: impl.QCall, Text: word}, kidTokens(tokens[1:])...)
	case slices.Contains(aggList, word):
		q, at := impl.Query{Kind: impl.QAgg, Op: slices.Index(aggList, word)}, 0
		q.By, q.Names, at = namesModel(tokens, 1, "by", "without")
		return queryTree(q, kidTokens(tokens[at:])...)
	}
	return selectTokens(tokens, when)
}

// treeOfTokens reads the tokens of a whole question: it parts them at the sign that binds least, of several at the last one.
func treeOfTokens(tokens []string) []impl.Query {
	cut, right, least := -1, 0, 6
	var sign impl.Query
	for at := behindOperand(tokens, 0); at < len(tokens); {
		q, behind := signModel(tokens, at)
		if level := opLevels[q.Op]; level <= least {
			cut, right, least, sign = at, behind, level, q
		}
		at = behindOperand(tokens, behind)
	}
	switch {
	case cut > 0:
		return queryTree(sign, treeOfTokens(tokens[:cut]), treeOfTokens(tokens[right:]))
	case tokens[0] == "-":
		return queryTree(impl.Query{Kind: impl.QNeg}, treeOfTokens(tokens[1:]))
	}
	return aloneTokens(tokens)
}

// wholeModel is what comes of tokens that are a whole question.
func wholeModel(tokens []string) impl.QueryRes {
	q := treeOfTokens(tokens)
	if !goodQueryModel(q) {
		return impl.QueryRes{Err: 3}
	}
	return impl.QueryRes{Node: q}
}

func readQueryModel(text string) impl.QueryRes {
	if len(text) > maxQuery {
		return impl.QueryRes{Err: 1}
	}
	tokens, end := tokensModel(text)
	c := newChart()
	var words []string
	for _, token := range tokens {
		next, ok := c.behind(token.text)
		if !ok {
			return impl.QueryRes{Err: 2, At: token.from}
		}
		c, words = next, append(words, token.text)
	}
	if end < len(text) || !c.isEnded() {
		return impl.QueryRes{Err: 2, At: end}
	}
	return wholeModel(words)
}

// checkQuery sees that what is said of a question is what the models say, that nothing is written into it, and that it is read back from its text, with brackets around it, too.
func checkQuery(t *testing.T, q []impl.Query) string {
	t.Helper()
	arg, kept := guarded(q)
	good, text, kind := impl.GoodQuery(arg), impl.QueryText(arg), impl.KindOfQuery(arg)
	if good != goodQueryModel(q) || text != queryTextModel(q) || kind != kindModel(q) {
		t.Fatalf("%+v:\n%t, %q, %q\nnot %t, %q, %q", q, good, text, kind, goodQueryModel(q), queryTextModel(q), kindModel(q))
	}
	if !kept() {
		t.Fatalf("%q was written into", text)
	}
	if text == "" {
		return ""
	}
	for _, told := range []string{text, "(" + text + ")", "( (  " + text + " ) ) "} {
		if len(told) > maxQuery {
			continue
		}
		got := impl.ReadQuery(told)
		if !same(got, impl.QueryRes{Node: q}) || impl.QueryText(got.Node) != text || impl.KindOfQuery(got.Node) != kind {
			t.Fatalf("%q is read as %+v, not as %+v", told, got, q)
		}
		checkOwn(t, got)
	}
	return text
}

// checkReadQuery sees that a text is read as the model reads it, into memory of its own.
func checkReadQuery(t *testing.T, text string) impl.QueryRes {
	t.Helper()
	got, want := impl.ReadQuery(text), readQueryModel(text)
	if !same(got, want) {
		t.Fatalf("%q is read as %+v, not as %+v", text, got, want)
	}
	checkOwn(t, got)
	return got
}

func askNum(n int) []impl.Query {
	return queryTree(impl.Query{Kind: impl.QNum, Num: n})
}

func askText(s string) []impl.Query {
	return queryTree(impl.Query{Kind: impl.QText, Text: s})
}

func askSelect(name string, m ...impl.Matcher) []impl.Query {
	return queryTree(impl.Query{Kind: impl.QSelect, Text: name, Match: m})
}

func askRange(num int, of []impl.Query) []impl.Query {
	return queryTree(impl.Query{Kind: impl.QRange, Num: num}, of)
}

func askSub(num int, step int, of []impl.Query) []impl.Query {
	return queryTree(impl.Query{Kind: impl.QSub, Num: num, Step: step}, of)
}

func askNeg(of []impl.Query) []impl.Query {
	return queryTree(impl.Query{Kind: impl.QNeg}, of)
}

func askOp(op int, left []impl.Query, right []impl.Query) []impl.Query {
	return queryTree(impl.Query{Kind: impl.QOp, Op: op}, left, right)
}

func askAgg(op int, of ...[]impl.Query) []impl.Query {
	return queryTree(impl.Query{Kind: impl.QAgg, Op: op}, of...)
}

func askCall(name string, of ...[]impl.Query) []impl.Query {
	return queryTree(impl.Query{Kind: impl.QCall, Text: name}, of...)
}

// asked is a question with its first node changed.
func asked(q []impl.Query, change func(x *impl.Query)) []impl.Query {
	q = slices.Clone(q)
	change(&q[0])
	return q
}

func likely(r *rand.Rand, n int) bool {
	return r.Intn(n) == 0
}

func oneOf[T any](r *rand.Rand, list ...T) T {
	return list[r.Intn(len(list))]
}

// asker makes questions at random.
type asker struct {
	*rand.Rand
}

func (a asker) time() int {
	return oneOf(a.Rand, 0, 1, 5, 60, 3600, maxTime-1, maxTime, a.Intn(1000))
}

// names are such as a list may have: also the language's words.
func (a asker) names() []string {
	var out []string
	for range a.Intn(4) {
		out = append(out, oneOf(a.Rand, "a", "b", "job", "zone", "_", "_name", "A9", "x_1", strings.Repeat("n", 40), oneOf(a.Rand, wordList...)))
	}
	slices.Sort(out)
	return slices.Compact(out)
}

func (a asker) text() string {
	return oneOf(a.Rand, "", "a", "job", `"`, `\`, `\\""`, "a b", "(", ")[5:1]", "a,b", "*|?", strings.Repeat("x", 100), randomOf(a.Rand, "ab \"\\{}[]()=~!,*", 9))
}

func (a asker) matchers() []impl.Matcher {
	var out []impl.Matcher
	for range a.Intn(4) {
		m := impl.Matcher{Name: oneOf(a.Rand, "a", "job", "by", "offset", "rate", "zone"), Op: 1 + a.Intn(4), Value: a.text()}
		if m.Op > 2 {
			m.Value = oneOf(a.Rand, "", "*", "a|b", `\*"`, "x?")
		}
		out = append(out, m)
	}
	return out
}

func (a asker) when(q *impl.Query) {
	if likely(a.Rand, 3) {
		q.Offset = a.time()
	}
	if likely(a.Rand, 3) {
		q.Fixed, q.At = true, a.time()
	}
}

func (a asker) series() []impl.Query {
	q := impl.Query{Kind: impl.QSelect, Text: oneOf(a.Rand, "up", "load", "hits_total", "a", "_name", "Rate", "offset_", strings.Repeat("s", 40))}
	if likely(a.Rand, 2) {
		q.Match = a.matchers()
	}
	if len(q.Match) > 0 && likely(a.Rand, 3) {
		q.Text = ""
	}
	a.when(&q)
	return queryTree(q)
}

func (a asker) op(left []impl.Query, right []impl.Query, from int, to int) []impl.Query {
	q := impl.Query{Kind: impl.QOp, Op: from + a.Intn(to-from+1), By: a.Intn(3)}
	q.Bool = isWithin(q.Op, 6, 11) && likely(a.Rand, 2)
	if q.By > 0 {
		q.Names = a.names()
	}
	if q.By > 0 && q.Op < 12 {
		q.Side = a.Intn(3)
	}
	if q.Side > 0 {
		q.Extra = a.names()
	}
	return queryTree(q, left, right)
}

// plain is an operation that numbers may have.
func (a asker) plain(left []impl.Query, right []impl.Query) []impl.Query {
	op := 1 + a.Intn(11)
	return queryTree(impl.Query{Kind: impl.QOp, Op: op, Bool: op > 5}, left, right)
}

func (a asker) agg(number []impl.Query, vector []impl.Query) []impl.Query {
	q := impl.Query{Kind: impl.QAgg, Op: 1 + a.Intn(8), By: a.Intn(3)}
	if q.By > 0 {
		q.Names = a.names()
	}
	if q.Op > 5 {
		return queryTree(q, number, vector)
	}
	return queryTree(q, vector)
}

func (a asker) sub(of []impl.Query) []impl.Query {
	q := impl.Query{Kind: impl.QSub, Num: 1 + a.Intn(100), Step: 1}
	q.Step += a.Intn(q.Num)
	a.when(&q)
	return queryTree(q, of)
}

// number, vector and span are questions of that kind; so deep at most.
func (a asker) number(deep int) []impl.Query {
	if deep < 2 || likely(a.Rand, 3) {
		return oneOf(a.Rand, askNum(a.Intn(10)), askNum(oneOf(a.Rand, 0, 1000, math.MaxInt)), askCall("time"))
	}
	deep--
	switch a.Intn(3) {
	case 0:
		return askNeg(a.number(deep))
	case 1:
		return askCall("scalar", a.vector(deep))
	}
	return a.plain(a.number(deep), a.number(deep))
}

func (a asker) span(deep int) []impl.Query {
	if deep < 3 || likely(a.Rand, 2) {
		return askRange(oneOf(a.Rand, 1, 60, maxTime), a.series())
	}
	if likely(a.Rand, 3) {
		return a.sub(a.number(deep - 1))
	}
	return a.sub(a.vector(deep - 1))
}

func (a asker) vector(deep int) []impl.Query {
	if deep < 3 || likely(a.Rand, 4) {
		return a.series()
	}
	deep--
	switch a.Intn(12) {
	case 0:
		return askNeg(a.vector(deep))
	case 1, 2:
		return a.op(a.vector(deep), a.vector(deep), 1, 14)
	case 3:
		return a.plain(a.vector(deep), a.number(deep))
	case 4:
		return a.plain(a.number(deep), a.vector(deep))
	case 5:
		return a.agg(a.number(deep), a.vector(deep))
	case 6:
		return askCall(oneOf(a.Rand, "abs", "absent", "timestamp"), a.vector(deep))
	case 7:
		return askCall("clamp", a.vector(deep), a.number(deep), a.number(deep))
	case 8:
		return oneOf(a.Rand, askCall("hist_quantile", a.number(deep), a.vector(deep)), askCall("vector", a.number(deep)))
	case 9:
		return askCall("label_set", a.vector(deep), askText(a.text()), askText(a.text()), askText(a.text()), askText(a.text()))
	case 10:
		texts := slices.Repeat([][]impl.Query{askText(a.text())}, 3+a.Intn(7))
		return askCall("label_join", append([][]impl.Query{a.vector(deep)}, texts...)...)
	}
	return oneOf(a.Rand, askCall(oneOf(a.Rand, "rate", "rise", "delta", "sum_over"), a.span(deep)), askCall("predict", a.span(deep), a.number(deep)), askCall("quantile_over", a.number(deep), a.span(deep)))
}

// any is a question of any kind or of none.
func (a asker) any(deep int) []impl.Query {
	if deep < 3 || likely(a.Rand, 5) {
		return oneOf(a.Rand, askNum(a.Intn(100)), askText(a.text()), a.series(), a.series())
	}
	deep--
	switch a.Intn(8) {
	case 0:
		return askRange(1+a.Intn(100), a.series())
	case 1:
		return a.sub(a.any(deep))
	case 2:
		return askNeg(a.any(deep))
	case 3:
		return a.agg(a.any(deep), a.any(deep))
	case 4:
		var kids [][]impl.Query
		for range a.Intn(4) {
			kids = append(kids, a.any(deep))
		}
		return askCall(oneOf(a.Rand, functionList...), kids...)
	}
	return a.op(a.any(deep), a.any(deep), 1, 14)
}

// question is a good question.
func (a asker) question() []impl.Query {
	for {
		deep := 1 + a.Intn(9)
		q := oneOf(a.Rand, a.any, a.any, a.vector, a.number, a.span)(deep)
		if len(q) <= 60 {
			return q
		}
	}
}

// looseTeller tells a question in one of the many texts that are read as it.
type looseTeller struct {
	*rand.Rand
	rows []impl.Query
	// loose is how seldom something is told in another way than needed; 0 for never.
	loose int
}

func (l *looseTeller) may() bool {
	return l.loose > 0 && likely(l.Rand, l.loose)
}

// when tells offset and @ in either order, offset 0 too.
func (l *looseTeller) when(q impl.Query) []string {
	var offset, at []string
	if q.Offset > 0 || l.may() {
		offset = []string{"offset", strconv.Itoa(q.Offset)}
	}
	if q.Fixed {
		at = []string{"@", strconv.Itoa(q.At)}
	}
	if l.may() {
		return append(at, offset...)
	}
	return append(offset, at...)
}

// names are told in any order, and some of them several times.
func (l *looseTeller) names(list []string) []string {
	list = slices.Clone(list)
	for i := range list {
		if l.may() {
			list = append(list, list[i])
		}
	}
	if l.may() {
		l.Shuffle(len(list), func(i, j int) { list[i], list[j] = list[j], list[i] })
	}
	return append(append([]string{"("}, commas(list)...), ")")
}

// commas puts a `,` between each two.
func commas(list []string) []string {
	var out []string
	for i, x := range list {
		if i > 0 {
			out = append(out, ",")
		}
		out = append(out, x)
	}
	return out
}

func (l *looseTeller) choice(way int, names []string, words ...string) []string {
	if way == 0 {
		return nil
	}
	return append([]string{words[way-1]}, l.names(names)...)
}

func (l *looseTeller) series(q impl.Query) []string {
	var out []string
	if q.Text != "" {
		out = append(out, q.Text)
	}
	if len(q.Match) == 0 && q.Text != "" && !l.may() {
		return out
	}
	out = append(out, "{")
	for i, m := range q.Match {
		if i > 0 {
			out = append(out, ",")
		}
		out = append(out, m.Name, []string{"", "=", "!=", "=~", "!~"}[m.Op], quotedModel(m.Value))
	}
	return append(out, "}")
}

// at tells the next node at a place that wants this level.
func (l *looseTeller) at(level int) []string {
	tokens, own, _ := l.next()
	for own < level || l.may() {
		tokens, own = slices.Concat([]string{"("}, tokens, []string{")"}), 7
	}
	return tokens
}

func (l *looseTeller) kids(n int) []string {
	out := []string{"("}
	for i := range n {
		if i > 0 {
			out = append(out, ",")
		}
		out = append(out, l.at(1)...)
	}
	return append(out, ")")
}

// next tells the next node: its tokens, its level, and whether it is a QRange alone.
func (l *looseTeller) next() ([]string, int, bool) {
	q := l.rows[0]
	l.rows = l.rows[1:]
	switch q.Kind {
	case impl.QNum:
		return []string{strconv.Itoa(q.Num)}, 7, false
	case impl.QText:
		return []string{quotedModel(q.Text)}, 7, false
	case impl.QSelect:
		return append(l.series(q), l.when(q)...), 7, false
	case impl.QRange:
		of := l.rows[0]
		l.rows = l.rows[1:]
		return slices.Concat(l.series(of), []string{"[", strconv.Itoa(q.Num), "]"}, l.when(of)), 7, true
	case impl.QSub:
		of, level, isRange := l.next()
		for level < 7 || isRange || l.loose == 0 || l.may() {
			of, level, isRange = slices.Concat([]string{"("}, of, []string{")"}), 7, false
			if l.loose == 0 {
				break
			}
		}
		return slices.Concat(of, []string{"[", strconv.Itoa(q.Num), ":", strconv.Itoa(q.Step), "]"}, l.when(q)), 7, false
	case impl.QNeg:
		return append([]string{"-"}, l.at(6)...), 6, false
	case impl.QAgg:
		words := append([]string{aggList[q.Op]}, l.choice(q.By, q.Names, "by", "without")...)
		return append(words, l.kids(q.Kids)...), 7, false
	case impl.QCall:
		return append([]string{q.Text}, l.kids(q.Kids)...), 7, false
	}
	level := opLevels[q.Op]
	out := append(l.at(level), opList[q.Op])
	if q.Bool {
		out = append(out, "bool")
	}
	out = append(out, l.choice(q.By, q.Names, "on", "ignoring")...)
	out = append(out, l.choice(q.Side, q.Extra, "group_left", "group_right")...)
	return append(out, l.at(level+1)...), level, false
}

// looseTokens are the tokens of a text that is read as a good question.
func looseTokens(r *rand.Rand, q []impl.Query, loose int) []string {
	l := &looseTeller{r, q, loose}
	return l.at(1)
}

func endsWord(s string) bool {
	return strings.IndexByte(nameBytes, s[len(s)-1]) >= 0
}

// runsInto says whether two tokens with nothing between would be read as others.
func runsInto(a string, b string) bool {
	number := isWithin(int(a[0]), '0', '9') && !isWithin(int(b[0]), '0', '9')
	return endsWord(a) && endsWord(b[:1]) && !number || len(a) == 1 && strings.Contains("=!<>", a) && strings.Contains("=~", b[:1])
}

// spaced puts at most so many blanks around tokens.
func spaced(r *rand.Rand, tokens []string, most int) string {
	var out strings.Builder
	for i, token := range tokens {
		blanks := r.Intn(most + 1)
		if i > 0 && blanks == 0 && runsInto(tokens[i-1], token) {
			blanks = 1
		}
		out.WriteString(strings.Repeat(" ", blanks) + token)
	}
	return out.String() + strings.Repeat(" ", r.Intn(most+1))
}

// Promise 15: a question is read back from its text, has the same text and kind then, and is read with brackets around it.
func TestQuestionsAreReadBack(t *testing.T) {
	a := asker{rand.New(rand.NewSource(151))}
	kinds, long := map[string]int{}, 0
	for range 6000 {
		q := a.question()
		if !goodQueryModel(q) {
			t.Fatalf("not good: %+v", q)
		}
		text := checkQuery(t, q)
		kinds[impl.KindOfQuery(q)]++
		if text == "" || len(q) > 30 {
			long++
		}
		if text != "" && len(text) < 200 {
			checkReadQuery(t, text)
		}
	}
	for _, kind := range []string{"", "number", "text", "vector", "range"} {
		if kinds[kind] < 30 {
			t.Errorf("%d of kind %q", kinds[kind], kind)
		}
	}
	if long < 100 {
		t.Errorf("%d long ones", long)
	}
}

// Whatever is told more than needed, or in another order, the same question is read.
func TestQuestionsToldLoosely(t *testing.T) {
	r := rand.New(rand.NewSource(152))
	a := asker{r}
	for i := range 6000 {
		q := a.question()
		for _, loose := range []int{0, 2 + r.Intn(3), 8} {
			tokens := looseTokens(r, q, loose)
			for _, text := range []string{spaced(r, tokens, 0), spaced(r, tokens, 1), spaced(r, tokens, 4)} {
				if len(text) > maxQuery {
					continue
				}
				got := impl.ReadQuery(text)
				if !same(got, impl.QueryRes{Node: q}) {
					t.Fatalf("%q is read as %+v, not as %+v", text, got, q)
				}
				checkOwn(t, got)
			}
			if i < 1500 && len(tokens) < 60 {
				checkReadQuery(t, spaced(r, tokens, 1))
			}
		}
	}
}

// tokenKinds has a token or more of each kind, and what is no token.
var tokenKinds = strings.Fields(`or and unless == != > < >= <= + - * / % ( ) { } [ ] , : @ = =~ !~ bool on ignoring group_left group_right by without offset sum topk rate time up 5 0 "x" 07 99999999999999999999 ! "x $`)

// isToken says whether a text is a token, and no number that is no int.
func isToken(text string) bool {
	tokens, end := tokensModel(text)
	return len(tokens) == 1 && tokens[0].text == text && end == len(text)
}

// checkBehind sees what comes of each token behind a right beginning, and of each one behind those that may stand there, and so on.
func checkBehind(t *testing.T, c chart, words []string, deep int) int {
	t.Helper()
	ahead, tried := strings.Join(words, " ")+" ", 0
	for _, token := range tokenKinds {
		text, want := ahead+token, impl.QueryRes{Err: 2, At: len(ahead)}
		next, ok := c.behind(token)
		ok = ok && isToken(token)
		if ok {
			want.At = len(text)
		}
		more := append(slices.Clone(words), token)
		if ok && next.isEnded() {
			want = wholeModel(more)
		}
		if got := impl.ReadQuery(text); !same(got, want) {
			t.Fatalf("%q is read as %+v, not as %+v", text, got, want)
		}
		tried++
		if ok && deep > 1 {
			tried += checkBehind(t, next, more, deep-1)
		}
	}
	return tried
}

// Every token in every place of short texts.
func TestEveryTokenInEveryPlace(t *testing.T) {
	if tried := checkBehind(t, newChart(), nil, 5); tried < 300000 {
		t.Errorf("only %d texts", tried)
	}
}

// Every two tokens behind every kind of place.
func TestEveryTokenBehindEveryPlace(t *testing.T) {
	tried := 0
	for _, ahead := range strings.Split(`up { job
up { job =
up { job = "x"
up { job = "x" ,
up { job = "x" , job =~ "y" }
{ by
{ by != "x" }
up [ 5
up [ 5 ]
up [ 5 ] offset
up [ 5 ] offset 5
up [ 5 ] offset 5 @ 5
up [ 5 :
up [ 5 : 5
up [ 5 : 5 ]
up [ 5 : 5 ] @ 5
up [ 5 : 5 ] @ 5 offset 5
up [ 5 : 5 ] @ 5 offset 5 [ 5
up offset 5 @
up offset 5 @ 5
up @ 5 offset 5
up @ 5 [ 5
up @ 5 [ 5 : 5 ]
( up
( up )
( up ) [ 5
( up [ 5 ] )
( up [ 5 ] ) [ 5
( up ) [ 5 : 5 ]
( ( up ) )
( up + 5
( up + 5 )
- up
- - up [ 5 ]
- ( up )
5 [ 5
5 [ 5 : 5 ]
"x" [ 5 : 5 ] offset 5
sum by
sum by (
sum by ( )
sum by ( sum
sum by ( sum ,
sum by ( sum , by )
sum without ( up ) (
sum without ( up ) ( up
sum ( up
sum ( up [ 5 ]
sum ( up )
sum ( up ) [ 5
topk ( 5
topk ( 5 ,
topk ( 5 , up
topk ( 5 , up )
topk by ( up ) ( 5 , - up
quantile ( ( 5
rate (
rate ( )
rate ( up
rate ( up ,
rate ( up , up
rate ( up [ 5 ] )
rate ( up [ 5 ] ) [ 5
up or
up or on
up or on (
up or on ( )
up or on ( up
up or on ( up ,
up and ignoring ( up )
up == bool
up == bool on
up == bool on ( up )
up == on ( up )
up == on ( up ) group_left
up == on ( up ) group_left (
up == on ( up ) group_left ( )
up == on ( up ) group_left ( up
up == on ( up ) group_left ( up ,
up == on ( up ) group_left ( up )
up + on ( )
up + ignoring ( ) group_right ( )
up + ignoring ( ) group_right ( ) -
up * -
up * - up
up * up
up * up [ 5 ]
up unless on ( up ) ( up )`, "\n") {
		words := strings.Fields(ahead)
		c := newChart()
		for i, word := range words {
			next, ok := c.behind(word)
			if !ok {
				t.Fatalf("%q: %d", ahead, i)
			}
			c = next
		}
		tried += checkBehind(t, c, words, 2)
	}
	if tried < 30000 {
		t.Errorf("only %d texts", tried)
	}
}

// Texts of questions with a token or a byte more, less, or another one, and cut anywhere.
func TestQuestionsChangedAtRandom(t *testing.T) {
	r := rand.New(rand.NewSource(153))
	a := asker{r}
	faults := map[int]int{}
	for range 4000 {
		tokens := looseTokens(r, a.question(), 2+r.Intn(6))
		if len(tokens) > 60 {
			continue
		}
		for range 1 + r.Intn(2) {
			i, j := r.Intn(len(tokens)), r.Intn(len(tokens))
			switch r.Intn(5) {
			case 0:
				tokens = slices.Insert(tokens, i, oneOf(r, tokenKinds...))
			case 1:
				tokens[i] = oneOf(r, tokenKinds...)
			case 2:
				tokens[i], tokens[j] = tokens[j], tokens[i]
			case 3:
				tokens = slices.Insert(tokens, i, tokens[j])
			case 4:
				if len(tokens) > 1 {
					tokens = slices.Delete(tokens, i, i+1)
				}
			}
		}
		text := spaced(r, tokens, 2)
		faults[checkReadQuery(t, text).Err]++
		at := r.Intn(len(text) + 1)
		faults[checkReadQuery(t, text[:at]).Err]++
		faults[checkReadQuery(t, text[:at]+string(byte(r.Intn(256)))+text[at:]).Err]++
		faults[checkReadQuery(t, text[:at]+text[min(at+1, len(text)):]).Err]++
	}
	for err, least := range map[int]int{0: 500, 2: 5000, 3: 30} {
		if faults[err] < least {
			t.Errorf("Err %d only %d times", err, faults[err])
		}
	}
}

// change gives one field of a row a value that may or may not be right there.
func (a asker) change(q *impl.Query) {
	edges := []int{math.MinInt, -1, 0, 1, 2, 3, 5, 6, 11, 12, 14, 15, maxTime, maxTime + 1, math.MaxInt}
	names := oneOf(a.Rand, []string{"a"}, []string{"b", "a"}, []string{"a", "a"}, []string{""}, []string{"9"}, []string{"a", "b"}, nil)
	switch a.Intn(15) {
	case 0:
		q.Kind = oneOf(a.Rand, edges...)
	case 1:
		q.Num = oneOf(a.Rand, edges...)
	case 2:
		q.Step = oneOf(a.Rand, edges...)
	case 3:
		q.Text = oneOf(a.Rand, "", "up", "9", "rate", "a b", "\n", oneOf(a.Rand, wordList...), strings.Repeat("a", 41), strings.Repeat("a", 101))
	case 4:
		q.Op = oneOf(a.Rand, edges...)
	case 5:
		q.Match = oneOf(a.Rand, nil, []impl.Matcher{{Name: "a", Op: 1}}, []impl.Matcher{{Name: "_name", Op: 1}}, []impl.Matcher{{Name: "a"}}, []impl.Matcher{{Name: "a", Op: 3, Value: `\`}})
	case 6:
		q.Offset = oneOf(a.Rand, edges...)
	case 7:
		q.Fixed = !q.Fixed
	case 8:
		q.At = oneOf(a.Rand, edges...)
	case 9:
		q.Bool = !q.Bool
	case 10:
		q.By = oneOf(a.Rand, edges...)
	case 11:
		q.Names = names
	case 12:
		q.Side = oneOf(a.Rand, edges...)
	case 13:
		q.Extra = names
	case 14:
		q.Kids = oneOf(a.Rand, edges...)
	}
}

func TestQuestionsWithFieldsChanged(t *testing.T) {
	a := asker{rand.New(rand.NewSource(154))}
	good := 0
	for range 20000 {
		q := a.question()
		a.change(&q[a.Intn(len(q))])
		checkQuery(t, q)
		if impl.GoodQuery(q) {
			good++
		}
	}
	if good < 1000 || good > 15000 {
		t.Errorf("%d are good", good)
	}
}

func TestFunctionsOfTheLanguage(t *testing.T) {
	want := []string{"abs", "absent", "avg_over", "changes", "clamp", "count_over", "delta", "hist_quantile", "label_join", "label_set", "last_over", "max_over", "min_over", "predict", "quantile_over", "rate", "resets", "rise", "scalar", "sum_over", "time", "timestamp", "vector"}
	first, second := impl.Functions(), impl.Functions()
	if !slices.Equal(first, want) || !slices.IsSorted(first) {
		t.Errorf("%v", first)
	}
	checkOwn(t, [][]string{first, second})
	for i := range first {
		first[i] = "up"
	}
	if !slices.Equal(second, want) || !slices.Equal(impl.Functions(), want) || !impl.GoodQuery(askCall("abs")) || impl.GoodQuery(askCall("up")) {
		t.Error("what was written into an answer shows")
	}
}

// eachRow has a question of each kind, with as many of its fields told as can be.
func eachRow() [][]impl.Query {
	when := func(x *impl.Query) { x.Offset, x.Fixed, x.At = 3, true, 4 }
	up := askSelect("up", impl.Matcher{Name: "job", Op: impl.MatchLike, Value: "a*"})
	sided := asked(askOp(impl.OpSame, up, up), func(x *impl.Query) {
		x.Bool, x.By, x.Names, x.Side, x.Extra = true, impl.ByOn, []string{"a", "b"}, impl.SideLeft, []string{"c", "d"}
	})
	grouped := asked(askAgg(impl.AggTop, askNum(1), up), func(x *impl.Query) { x.By, x.Names = impl.ByWithout, []string{"a", "b"} })
	return [][]impl.Query{askNum(5), askText("x"), asked(up, when), askRange(5, up), asked(askSub(5, 2, up), when), askNeg(up), sided, grouped, askCall("rate", askRange(5, up))}
}

// Of each kind the fields that it does not have, one at a time, and other fields that can't be.
func TestRowsWithFieldsOfOtherKinds(t *testing.T) {
	wrong := map[string]any{"Num": 1, "Step": 1, "Text": "a", "Op": 1, "Match": []impl.Matcher{{Name: "a", Op: 1}}, "Offset": 1, "Fixed": true, "At": 1, "Bool": true, "By": 1, "Names": []string{"a"}, "Side": 1, "Extra": []string{"a"}}
	for i, base := range eachRow() {
		if base[0].Kind != i+1 || checkQuery(t, base) == "" {
			t.Fatalf("%+v is not good", base)
		}
		for name, value := range wrong {
			q := slices.Clone(base)
			field := reflect.ValueOf(&q[0]).Elem().FieldByName(name)
			if slices.Contains(strings.Fields(rowFields[i+1]), name) {
				continue
			}
			field.Set(reflect.ValueOf(value))
			if checkQuery(t, q) != "" {
				t.Errorf("kind %d with %s", i+1, name)
			}
			if field.Kind() == reflect.Slice {
				field.Set(reflect.MakeSlice(field.Type(), 0, 3))
				if checkQuery(t, q) == "" {
					t.Errorf("kind %d with an empty %s", i+1, name)
				}
			}
		}
		for _, kind := range []int{math.MinInt, -1, 0, 10, 11, math.MaxInt} {
			if checkQuery(t, asked(base, func(x *impl.Query) { x.Kind = kind })) != "" {
				t.Errorf("kind %d as %d", i+1, kind)
			}
		}
		for _, kids := range []int{math.MinInt, -2, -1, base[0].Kids - 1, base[0].Kids + 1, 59, 60, 61, 1 << 40, math.MaxInt} {
			if checkQuery(t, asked(base, func(x *impl.Query) { x.Kids = kids })) != "" {
				t.Errorf("kind %d with %d for its kids", i+1, kids)
			}
		}
	}
}

// aCase is a question, and whether it is good.
type aCase struct {
	name string
	q    []impl.Query
	good bool
}

func checkCases(t *testing.T, cases []aCase) {
	t.Helper()
	for _, c := range cases {
		checkQuery(t, c.q)
		if impl.GoodQuery(c.q) != c.good {
			t.Errorf("%s: good is %t", c.name, !c.good)
		}
	}
}

func manyNames(n int) []string {
	var out []string
	for i := range n {
		out = append(out, fmt.Sprintf("n%03d", i))
	}
	return out
}

func TestRowsAtTheirLimits(t *testing.T) {
	up, xs, name := askSelect("up"), strings.Repeat("x", 100), strings.Repeat("n", 40)
	var cases []aCase
	add := func(good bool, label string, q []impl.Query) {
		cases = append(cases, aCase{label, q, good})
	}
	for n, good := range map[int]bool{math.MinInt: false, -1: false, 0: true, 1: true, maxTime + 1: true, math.MaxInt: true} {
		add(good, fmt.Sprint("number ", n), askNum(n))
	}
	for s, good := range map[string]bool{"": true, " ~": true, `"\`: true, xs: true, xs + "x": false, "\x1f": false, "\x7f": false, "a\nb": false, "\x80": false, "é": false, "\x00": false} {
		add(good, fmt.Sprintf("text %q", s), askText(s))
	}
	for n, good := range map[int]bool{math.MinInt: false, -1: false, 0: false, 1: true, maxTime: true, maxTime + 1: false, math.MaxInt: false} {
		add(good, fmt.Sprint("range ", n), askRange(n, up))
		add(good, fmt.Sprint("sub ", n), askSub(n, 1, up))
		add(good, fmt.Sprint("sub and step ", n), askSub(n, n, up))
		add(n == 1, fmt.Sprint("step of 1 ", n), askSub(1, n, up))
		add(good && n <= maxTime, fmt.Sprint("step ", n), askSub(maxTime, n, up))
		time := good || n == 0
		for _, base := range [][]impl.Query{up, askSub(5, 5, up)} {
			add(time, fmt.Sprint("offset ", n), asked(base, func(x *impl.Query) { x.Offset = n }))
			add(time, fmt.Sprint("fixed ", n), asked(base, func(x *impl.Query) { x.Fixed, x.At = true, n }))
			add(n == 0, fmt.Sprint("not fixed ", n), asked(base, func(x *impl.Query) { x.At = n }))
			add(time, fmt.Sprint("in a range, offset ", n), askRange(5, asked(up, func(x *impl.Query) { x.Offset = n })))
		}
	}
	for s, good := range map[string]bool{"_": true, "_name": true, "Abs": true, "abs_": true, name: true, name + "n": false, "9": false, "9a": false, "a9": true, "a-b": false, "a b": false, " ": false, "é": false, `"a"`: false, "": false} {
		add(good, fmt.Sprintf("select %q", s), askSelect(s))
		add(good, fmt.Sprintf("range of %q", s), askRange(5, askSelect(s)))
		add(good || s == "", fmt.Sprintf("select %q and more", s), askSelect(s, impl.Matcher{Name: "a", Op: 1}))
	}
	for _, s := range wordList {
		add(false, "select "+s, askSelect(s))
		add(false, "select "+s+" and more", askSelect(s, impl.Matcher{Name: "a", Op: 1}))
		add(true, "a matcher of "+s, askSelect("", impl.Matcher{Name: s, Op: 1, Value: s}))
		add(true, "a text "+s, askText(s))
	}
	for n, good := range map[int]bool{1: true, 8: true, 9: true, 10: false, 11: false} {
		add(good, fmt.Sprint(n, " matchers"), askSelect("", manyMatchers(n)...))
		add(good, fmt.Sprint("up, ", n, " matchers"), askSelect("up", manyMatchers(n)...))
	}
	for i, m := range badMatchers() {
		add(false, fmt.Sprint("bad matchers ", i), askSelect("up", m...))
	}
	for op := impl.MatchSame; op <= impl.MatchUnlike; op++ {
		add(false, "a matcher of _name", askSelect("up", impl.Matcher{Name: "_name", Op: op, Value: "up"}))
		add(false, "a matcher of _name, the last one", askSelect("", impl.Matcher{Name: "a", Op: op}, impl.Matcher{Name: "_name", Op: op}))
		add(true, "a matcher of _names", askSelect("", impl.Matcher{Name: "_names", Op: op}))
	}
	for _, kid := range eachRow() {
		add(kid[0].Kind == impl.QSelect, fmt.Sprint("range of kind ", kid[0].Kind), askRange(5, kid))
		add(true, fmt.Sprint("sub of kind ", kid[0].Kind), askSub(5, 5, kid))
		add(true, fmt.Sprint("neg of kind ", kid[0].Kind), askNeg(kid))
		add(true, fmt.Sprint("sum of kind ", kid[0].Kind), askAgg(1, kid))
		add(true, fmt.Sprint("call of kind ", kid[0].Kind), askCall("abs", kid))
		add(true, fmt.Sprint("op of kind ", kid[0].Kind), askOp(1, kid, kid))
	}
	checkCases(t, cases)
}

func TestOperationsAndAggregatesAtTheirLimits(t *testing.T) {
	up := askSelect("up")
	var cases []aCase
	add := func(good bool, label string, q []impl.Query) {
		cases = append(cases, aCase{label, q, good})
	}
	for _, op := range []int{math.MinInt, -1, 0, 1, 2, 3, 4, 5, 6, 7, 8, 9, 10, 11, 12, 13, 14, 15, math.MaxInt} {
		some := isWithin(op, 1, 14)
		compares, sets := isWithin(op, 6, 11), isWithin(op, 12, 14)
		base := askOp(op, up, up)
		add(some, fmt.Sprint("op ", op), base)
		add(compares, fmt.Sprint("bool of op ", op), asked(base, func(x *impl.Query) { x.Bool = true }))
		for _, by := range []int{math.MinInt, -1, 0, 1, 2, 3, math.MaxInt} {
			way := isWithin(by, 0, 2)
			add(some && way, fmt.Sprint("op ", op, " by ", by), asked(base, func(x *impl.Query) { x.By = by }))
			add(some && way && by > 0, fmt.Sprint("op ", op, " by ", by, " and a name"), asked(base, func(x *impl.Query) { x.By, x.Names = by, []string{"a"} }))
			for _, side := range []int{math.MinInt, -1, 0, 1, 2, 3, math.MaxInt} {
				fine := some && way && (side == 0 || isWithin(side, 1, 2) && by > 0 && !sets)
				add(fine, fmt.Sprint("op ", op, " by ", by, " side ", side), asked(base, func(x *impl.Query) { x.By, x.Side = by, side }))
				add(fine && side > 0, fmt.Sprint("op ", op, " by ", by, " side ", side, " and a name"), asked(base, func(x *impl.Query) { x.By, x.Side, x.Extra = by, side, []string{"a"} }))
			}
		}
		agg := isWithin(op, 1, 8)
		one, two := askAgg(op, up), askAgg(op, askNum(1), up)
		add(agg && op < 6, fmt.Sprint("agg ", op), one)
		add(agg && op > 5, fmt.Sprint("agg of two ", op), two)
		add(false, fmt.Sprint("agg of none ", op), askAgg(op))
		add(false, fmt.Sprint("agg of three ", op), askAgg(op, askNum(1), up, up))
		for _, by := range []int{math.MinInt, -1, 0, 1, 2, 3, math.MaxInt} {
			add(agg && op < 6 && isWithin(by, 0, 2), fmt.Sprint("agg ", op, " by ", by), asked(one, func(x *impl.Query) { x.By = by }))
			add(agg && op > 5 && isWithin(by, 1, 2), fmt.Sprint("agg ", op, " by ", by, " and a name"), asked(two, func(x *impl.Query) { x.By, x.Names = by, []string{"a"} }))
		}
	}
	long := strings.Repeat("n", 40)
	for _, c := range []struct {
		names []string
		good  bool
	}{
		{nil, true}, {[]string{"a"}, true}, {[]string{"a", "b"}, true}, {[]string{"B", "a"}, true}, {[]string{"a", "aa"}, true}, {manyNames(9), true}, {manyNames(10), true}, {wordList[:10], true}, {[]string{long}, true}, {[]string{"_name"}, true},
		{manyNames(11), false}, {manyNames(1000), false}, {[]string{"a", "a"}, false}, {[]string{"b", "a"}, false}, {[]string{"aa", "a"}, false}, {[]string{"a", "B"}, false}, {[]string{""}, false}, {[]string{"9"}, false}, {[]string{"a b"}, false}, {[]string{"a", "b-"}, false}, {[]string{long + "n"}, false}, {[]string{"", "a"}, false},
	} {
		if c.good {
			slices.Sort(c.names)
		}
		for way := 1; way <= 2; way++ {
			add(c.good, fmt.Sprintf("names %v of an op, %d", c.names, way), asked(askOp(impl.OpAnd, up, up), func(x *impl.Query) { x.By, x.Names = way, c.names }))
			add(c.good, fmt.Sprintf("names %v of an agg, %d", c.names, way), asked(askAgg(impl.AggSum, up), func(x *impl.Query) { x.By, x.Names = way, c.names }))
			add(c.good, fmt.Sprintf("extra %v, %d", c.names, way), asked(askOp(impl.OpMost, up, up), func(x *impl.Query) { x.By, x.Side, x.Extra = 3-way, way, c.names }))
		}
	}
	for n := range 14 {
		add(n <= 10, fmt.Sprint(n, " kids of a call"), askCall("rate", slices.Repeat([][]impl.Query{up}, n)...))
	}
	for _, s := range append([]string{"", "up", "Rate", "rates", "rat", "rate ", "sum", "on", "and"}, aggList...) {
		add(false, "a call of "+s, askCall(s, up))
	}
	for _, s := range functionList {
		add(true, "a call of "+s, askCall(s, up))
		add(true, "a call of nothing of "+s, askCall(s))
	}
	checkCases(t, cases)
}

// calls are so many nodes: a call of calls of numbers.
func calls(n int) []impl.Query {
	kids := make([][][]impl.Query, 10)
	for i := range n - 11 {
		kids[i%10] = append(kids[i%10], askNum(i))
	}
	var all [][]impl.Query
	for _, list := range kids {
		all = append(all, askCall("abs", list...))
	}
	return askCall("clamp", all...)
}

// chains are so many nodes within each other, in several ways.
func chains(n int) [][]impl.Query {
	negs, left, right, subs, kids, span := askNum(1), askSelect("a"), askSelect("a"), askSelect("a"), askCall("time"), askRange(5, askSelect("a"))
	for i := range n - 1 {
		negs, subs, kids = askNeg(negs), askSub(5, 1, subs), askCall("rate", kids)
		left, right = askOp(impl.OpAdd, left, askNum(i)), askOp(impl.OpMul, askNum(i), right)
		if i > 0 {
			span = askAgg(impl.AggTop, askNum(1), span)
		}
	}
	return [][]impl.Query{negs, left, right, subs, kids, span}
}

func TestTreesOfQuestions(t *testing.T) {
	var cases []aCase
	add := func(good bool, label string, q []impl.Query) {
		cases = append(cases, aCase{label, q, good})
	}
	for n := 50; n < 70; n++ {
		q := calls(n)
		if len(q) != n {
			t.Fatalf("%d nodes, not %d", len(q), n)
		}
		add(n <= 60, fmt.Sprint(n, " nodes"), q)
	}
	for n := 2; n < 20; n++ {
		for i, q := range chains(n) {
			add(n <= 12 && len(q) <= 60, fmt.Sprint(n, " within each other, ", i), q)
		}
	}
	add(false, "nothing", nil)
	add(false, "nothing at all", []impl.Query{})
	add(false, "a zero row", make([]impl.Query, 1))
	add(false, "zero rows", make([]impl.Query, 60))
	add(false, "very many zero rows", make([]impl.Query, 1<<12))
	for i, q := range eachRow() {
		add(false, fmt.Sprint("two trees ", i), slices.Concat(q, askNum(1)))
		add(false, fmt.Sprint("a tree twice ", i), slices.Concat(q, q))
		for n := range len(q) {
			add(false, fmt.Sprint("ends early ", i), q[:n])
			add(n > 0 && len(q) > 1 && goodQueryModel(q[n:]) || n == 0, fmt.Sprint("begins late ", i), q[n:])
		}
	}
	checkCases(t, cases)
}

// What lies behind a list's length is no part of a question.
func TestQuestionsDoNotReadBehindTheirEnd(t *testing.T) {
	all := askNeg(askNeg(askNum(1)))
	for n := range 3 {
		if impl.GoodQuery(all[:n]) || impl.QueryText(all[:n]) != "" || impl.KindOfQuery(all[:n]) != "" {
			t.Errorf("%d nodes", n)
		}
	}
	names := []string{"a", "b", "b"}
	q := asked(askAgg(impl.AggSum, askSelect("up")), func(x *impl.Query) { x.By, x.Names = impl.ByOn, names[:2] })
	if got := checkQuery(t, q); got != "sum by (a, b)(up)" {
		t.Error(got)
	}
}

// Every sign with a question of every level at both of its sides: brackets just where they are wanted.
func TestBracketsByLevels(t *testing.T) {
	a, b := askSelect("a"), askSelect("b")
	kids := []toldPart{{"-a", 6}, {"a", 7}, {"5", 7}, {`"x"`, 7}, {"a[5]", 7}, {"(a)[5:1]", 7}, {"sum(a)", 7}, {"rate(a)", 7}, {"a offset 5 @ 7", 7}}
	trees := [][]impl.Query{askNeg(a), a, askNum(5), askText("x"), askRange(5, a), askSub(5, 1, a), askAgg(1, a), askCall("rate", a), asked(a, func(x *impl.Query) { x.Offset, x.Fixed, x.At = 5, true, 7 })}
	for op := 1; op <= 14; op++ {
		kids = append(kids, toldPart{"a " + opList[op] + " b", opLevels[op]})
		trees = append(trees, askOp(op, a, b))
	}
	for i, kid := range kids {
		for op := 1; op <= 14; op++ {
			level := opLevels[op]
			left, right := askOp(op, trees[i], b), askOp(op, b, trees[i])
			leftText, rightText := kid.text+" "+opList[op]+" b", "b "+opList[op]+" "+kid.text
			if kid.level < level {
				leftText = "(" + kid.text + ") " + opList[op] + " b"
			}
			if kid.level <= level {
				rightText = "b " + opList[op] + " (" + kid.text + ")"
			}
			for text, q := range map[string][]impl.Query{leftText: left, rightText: right} {
				if got := checkQuery(t, q); got != text {
					t.Errorf("%q, not %q", got, text)
				}
				if got := checkReadQuery(t, strings.ReplaceAll(text, " ", "   ")); !same(got.Node, q) {
					t.Errorf("%q is read as %+v", text, got)
				}
			}
		}
		want := "-" + kid.text
		if kid.level < 6 {
			want = "-(" + kid.text + ")"
		}
		for text, q := range map[string][]impl.Query{
			want:                           askNeg(trees[i]),
			"-" + want:                     askNeg(askNeg(trees[i])),
			"(" + kid.text + ")[9:3]":      askSub(9, 3, trees[i]),
			"sum(" + kid.text + ")":        askAgg(impl.AggSum, trees[i]),
			"topk(1, " + kid.text + ")":    askAgg(impl.AggTop, askNum(1), trees[i]),
			"bottomk(" + kid.text + ", 1)": askAgg(impl.AggBottom, trees[i], askNum(1)),
			"abs(" + kid.text + ")":        askCall("abs", trees[i]),
			"clamp(" + kid.text + ", 1, " + kid.text + ")": askCall("clamp", trees[i], askNum(1), trees[i]),
		} {
			if got := checkQuery(t, q); got != text {
				t.Errorf("%q, not %q", got, text)
			}
		}
	}
}

func TestTextsOfQuestions(t *testing.T) {
	a, b := askSelect("a"), askSelect("b")
	signed := func(op int, by int, names []string, side int, extra []string) []impl.Query {
		return asked(askOp(op, a, b), func(x *impl.Query) { x.By, x.Names, x.Side, x.Extra = by, names, side, extra })
	}
	grouped := func(by int, names ...string) []impl.Query {
		return asked(askAgg(impl.AggCount, a), func(x *impl.Query) { x.By, x.Names = by, names })
	}
	when := func(q []impl.Query, offset int, fixed bool, at int) []impl.Query {
		return asked(q, func(x *impl.Query) { x.Offset, x.Fixed, x.At = offset, fixed, at })
	}
	both := askSelect("a", impl.Matcher{Name: "x", Op: 2, Value: "y"}, impl.Matcher{Name: "by", Op: 4, Value: `"|\\`})
	for text, q := range map[string][]impl.Query{
		"9223372036854775807":             askNum(math.MaxInt),
		`""`:                              askText(""),
		`"\"\\ "`:                         askText(`"\ `),
		`a{x!="y",by!~"\"|\\\\"}`:         both,
		`a{x!="y",by!~"\"|\\\\"}[5]`:      askRange(5, both),
		`{x!="y",by!~"\"|\\\\"} offset 1`: when(asked(both, func(x *impl.Query) { x.Text = "" }), 1, false, 0),
		`{x="",y=~""}`:                    askSelect("", impl.Matcher{Name: "x", Op: 1}, impl.Matcher{Name: "y", Op: 3}),
		"a offset 1":                      when(a, 1, false, 0),
		"a @ 0":                           when(a, 0, true, 0),
		"a offset 1 @ 1000000000000":      when(a, 1, true, maxTime),
		"a[1000000000000] offset 1000000000000 @ 2": askRange(maxTime, when(a, maxTime, true, 2)),
		"a[7] @ 2":                       askRange(7, when(a, 0, true, 2)),
		"(a offset 3)[7:7] offset 1 @ 2": when(askSub(7, 7, when(a, 3, false, 0)), 1, true, 2),
		"(a[7] offset 3)[7:7] @ 2":       when(askSub(7, 7, askRange(7, when(a, 3, false, 0))), 0, true, 2),
		"((a)[7:1] @ 3)[9:2] offset 4":   when(askSub(9, 2, when(askSub(7, 1, a), 0, true, 3)), 4, false, 0),
		"(-a)[7:1]":                      askSub(7, 1, askNeg(a)),
		"-(a)[7:1]":                      askNeg(askSub(7, 1, a)),
		"--a":                            askNeg(askNeg(a)),
		"---1":                           askNeg(askNeg(askNeg(askNum(1)))),
		"-a - -b":                        askOp(impl.OpSub, askNeg(a), askNeg(b)),
		"a - --b":                        askOp(impl.OpSub, a, askNeg(askNeg(b))),
		"-(a - b)":                       askNeg(askOp(impl.OpSub, a, b)),
		"-(a * b)":                       askNeg(askOp(impl.OpMul, a, b)),
		"-a * b":                         askOp(impl.OpMul, askNeg(a), b),
		"a == bool b":                    asked(askOp(impl.OpSame, a, b), func(x *impl.Query) { x.Bool = true }),
		"a != bool on(x) b":              asked(signed(impl.OpNot, 1, []string{"x"}, 0, nil), func(x *impl.Query) { x.Bool = true }),
		"a > bool ignoring(x, y) group_right(z) b": asked(signed(impl.OpMore, 2, []string{"x", "y"}, 2, []string{"z"}), func(x *impl.Query) { x.Bool = true }),
		"a + on() b":                                        signed(impl.OpAdd, 1, nil, 0, nil),
		"a - ignoring() b":                                  signed(impl.OpSub, 2, nil, 0, nil),
		"a / on(on) group_left() b":                         signed(impl.OpDiv, 1, []string{"on"}, 1, nil),
		"a % on() group_left(bool, on) b":                   signed(impl.OpMod, 1, nil, 1, []string{"bool", "on"}),
		"a < ignoring(a) group_left(b) b":                   signed(impl.OpLess, 2, []string{"a"}, 1, []string{"b"}),
		"a >= on(a) group_right(group_left, group_right) b": signed(impl.OpLeast, 1, []string{"a"}, 2, []string{"group_left", "group_right"}),
		"a <= ignoring() group_right() b":                   signed(impl.OpMost, 2, nil, 2, nil),
		"a and on(x) b":                                     signed(impl.OpAnd, 1, []string{"x"}, 0, nil),
		"a unless ignoring(x) b":                            signed(impl.OpUnless, 2, []string{"x"}, 0, nil),
		"a or on() b":                                       signed(impl.OpOr, 1, nil, 0, nil),
		"a + on(x) (b + b)":                                 asked(askOp(impl.OpAdd, a, askOp(impl.OpAdd, b, b)), func(x *impl.Query) { x.By, x.Names = 1, []string{"x"} }),
		"a + on() -b":                                       asked(askOp(impl.OpAdd, a, askNeg(b)), func(x *impl.Query) { x.By = 1 }),
		"count(a)":                                          grouped(0),
		"count by ()(a)":                                    grouped(1),
		"count without ()(a)":                               grouped(2),
		"count by (a, by)(a)":                               grouped(1, "a", "by"),
		"count without (without)(a)":                        grouped(2, "without"),
		"time()":                                            askCall("time"),
		"vector(a, b, 5, \"\")":                             askCall("vector", a, b, askNum(5), askText("")),
	} {
		if got := checkQuery(t, q); got != text {
			t.Errorf("%q, not %q", got, text)
		}
		if got := checkReadQuery(t, text); !same(got.Node, q) {
			t.Errorf("%q is read as %+v", text, got)
		}
	}
	for i, word := range aggList[1:] {
		kids := [][]impl.Query{a, b}[:1+(i+1)/6]
		want := map[int]string{1: word + "(a)", 2: word + "(a, b)"}[len(kids)]
		if got := checkQuery(t, askAgg(i+1, kids...)); got != want {
			t.Errorf("%q, not %q", got, want)
		}
	}
}

// asLong is a good question whose text has just so many bytes; n is above 3500.
func asLong(n int) []impl.Query {
	var kids [][]impl.Query
	for range 3 {
		kids = append(kids, askCall("rate", slices.Repeat([][]impl.Query{askText(strings.Repeat("x", 100))}, 10)...))
	}
	last := slices.Repeat([][]impl.Query{askText("")}, 10)
	left := n - len(longText(askCall("abs", append(kids, askCall("rate", last...))...)))
	for i := range last {
		size := min(left, 100)
		last[i] = askText(strings.Repeat("y", size))
		left -= size
	}
	return askCall("abs", append(kids, askCall("rate", last...))...)
}

func TestTextsAtMaxQuery(t *testing.T) {
	for n := maxQuery - 5; n <= maxQuery+5; n++ {
		q := asLong(n)
		text := longText(q)
		if len(text) != n || !goodQueryModel(q) {
			t.Fatalf("%d bytes, not %d", len(text), n)
		}
		got, read := checkQuery(t, q), impl.ReadQuery(text)
		if n <= maxQuery && (got != text || !same(read, impl.QueryRes{Node: q})) || n > maxQuery && (got != "" || !same(read, impl.QueryRes{Err: 1})) {
			t.Errorf("%d bytes: %d told, read with %d at %d", n, len(got), read.Err, read.At)
		}
		// A question that has no text is good all the same, and may have a kind.
		if !impl.GoodQuery(q) || impl.KindOfQuery(q) != "" {
			t.Errorf("%d bytes: not good", n)
		}
	}
	value := strings.Repeat("v", 100)
	var m []impl.Matcher
	for _, name := range manyNames(9) {
		m = append(m, impl.Matcher{Name: name, Op: 1, Value: value})
	}
	sum := askOp(impl.OpAdd, askSelect("", m...), askSelect("", m...))
	for range 2 {
		sum = askOp(impl.OpAdd, sum, sum)
	}
	if checkQuery(t, sum) != "" || impl.KindOfQuery(sum) != "vector" {
		t.Errorf("a long sum: %q", impl.KindOfQuery(sum))
	}
	// Blanks and brackets count, too.
	for text, err := range map[string]int{
		"up" + strings.Repeat(" ", maxQuery-2):                               0,
		"up" + strings.Repeat(" ", maxQuery-1):                               1,
		strings.Repeat(" ", maxQuery-2) + "up":                               0,
		strings.Repeat(" ", maxQuery-1) + "up":                               1,
		strings.Repeat("(", maxQuery/2-1) + "up" + strings.Repeat(")", 1999): 0,
		strings.Repeat("(", maxQuery/2-1) + "up" + strings.Repeat(")", 2000): 1,
		strings.Repeat("(", maxQuery/2-1) + "up" + strings.Repeat(")", 1998): 2,
		strings.Repeat(" ", maxQuery):                                        2,
		strings.Repeat(" ", maxQuery+1):                                      1,
		strings.Repeat("?", maxQuery):                                        2,
		strings.Repeat("?", maxQuery+1):                                      1,
		strings.Repeat("-", maxQuery-1) + "1":                                3,
		strings.Repeat("-", maxQuery) + "1":                                  1,
		strings.Repeat("9", maxQuery):                                        2,
		strings.Repeat("n", maxQuery):                                        3,
		strings.Repeat("n", maxQuery+1):                                      1,
		`"` + strings.Repeat("n", maxQuery-2) + `"`:                          3,
		`"` + strings.Repeat("n", maxQuery-1):                                2,
		strings.Repeat("a+", maxQuery/2-1) + "aa":                            3,
		strings.Repeat("rate(", 700) + strings.Repeat(")", 500):              2,
		strings.Repeat("rate(", 666) + strings.Repeat(")", 666):              3,
		strings.Repeat("rate(", 666) + strings.Repeat(")", 667):              2,
		strings.Repeat("(", maxQuery):                                        2,
		strings.Repeat("up[5:1]", 1):                                         0,
		"up" + strings.Repeat("[5:1]", 11):                                   0,
		"up" + strings.Repeat("[5:1]", 12):                                   3,
		"up" + strings.Repeat("[5:1]", 799):                                  3,
		"sum by (" + strings.Repeat("a,", 1900) + "b)(up)":                   0,
		"sum by (" + strings.Repeat("a,", 1990) + "b)(up)":                   0,
		"sum by (" + strings.Repeat("a,", 1994) + "b)(up)":                   1,
		"up{" + strings.Repeat(`a="",`, 8) + `a=""}`:                         0,
		"up{" + strings.Repeat(`a="",`, 9) + `a=""}`:                         3,
		"up{" + strings.Repeat(`a="",`, 700) + `a=""}`:                       3,
		"abs(" + strings.Repeat("1,", 9) + "1)":                              0,
		"abs(" + strings.Repeat("1,", 10) + "1)":                             3,
		"abs(" + strings.Repeat("1,", 1900) + "1)":                           3,
		"abs(" + strings.Repeat("1,", 1900) + ")":                            2,
		strings.Repeat("\x00", maxQuery):                                     2,
		strings.Repeat("up ", maxQuery/3):                                    2,
		strings.Repeat(`"`, maxQuery):                                        2,
		strings.Repeat(`\`, maxQuery):                                        2,
		strings.Repeat("1 or ", 700) + "1" + strings.Repeat(" or 1", 1):      3,
		strings.Repeat("1 or (", 11) + "1" + strings.Repeat(")", 11):         0,
		strings.Repeat("1 or (", 12) + "1" + strings.Repeat(")", 12):         3,
		strings.Repeat("1 or ", 11) + "1":                                    0,
		strings.Repeat("1 or ", 12) + "1":                                    3,
	} {
		got := impl.ReadQuery(text)
		if got.Err != err || err != 2 && got.At != 0 || err > 0 && len(got.Node) > 0 {
			t.Errorf("%.40q, %d bytes: %d at %d, not %d", text, len(text), got.Err, got.At, err)
		}
	}
}

// What is read, and as what text it is told then.
func TestLooseTextsOfQuestions(t *testing.T) {
	for text, want := range map[string]string{
		"up":                                     "up",
		"   up   ":                               "up",
		"((up))":                                 "up",
		"( ( up ) )":                             "up",
		"up{}":                                   "up",
		"up { }":                                 "up",
		"up{ }[5]":                               "up[5]",
		"up{}offset 5":                           "up offset 5",
		"up offset 0":                            "up",
		"up offset 0 @ 0":                        "up @ 0",
		"up @ 0 offset 0":                        "up @ 0",
		"up@3 offset 5":                          "up offset 5 @ 3",
		"up@3offset 5":                           "up offset 5 @ 3",
		"up[5]@3offset 5":                        "up[5] offset 5 @ 3",
		"up [ 5 ] offset 0":                      "up[5]",
		"up[5:1]":                                "(up)[5:1]",
		"up[5:5]@3 offset 5":                     "(up)[5:5] offset 5 @ 3",
		"up offset 4[5:1]offset 0":               "(up offset 4)[5:1]",
		"up@1 offset 4[5:1]offset 7@8":           "(up offset 4 @ 1)[5:1] offset 7 @ 8",
		"up{a=\"b\"}[5:1]":                       "(up{a=\"b\"})[5:1]",
		"{a=\"b\"}[5:1]":                         "({a=\"b\"})[5:1]",
		"(up)[5:1]":                              "(up)[5:1]",
		"((up))[5:1]":                            "(up)[5:1]",
		"(up[5])[5:1]":                           "(up[5])[5:1]",
		"((up[5]))[5:1]":                         "(up[5])[5:1]",
		"(up[5] offset 1)[5:1]":                  "(up[5] offset 1)[5:1]",
		"((up)[5:1])":                            "(up)[5:1]",
		"up[5:1][6:2]":                           "((up)[5:1])[6:2]",
		"up[5:1]@7[6:2]":                         "((up)[5:1] @ 7)[6:2]",
		"up[5:1]@7 offset 3[6:2][7:3]":           "(((up)[5:1] offset 3 @ 7)[6:2])[7:3]",
		"(up)[5:1][6:2]":                         "((up)[5:1])[6:2]",
		"5[5:1]":                                 "(5)[5:1]",
		"\"x\"[5:1]":                             "(\"x\")[5:1]",
		"sum(up)[5:1]":                           "(sum(up))[5:1]",
		"sum by(a)(up)[5:1]":                     "(sum by (a)(up))[5:1]",
		"rate(up[5])[5:1]":                       "(rate(up[5]))[5:1]",
		"time()[5:1]":                            "(time())[5:1]",
		"(a+b)[5:1]":                             "(a + b)[5:1]",
		"a+b[5:1]":                               "a + (b)[5:1]",
		"-a[5:1]":                                "-(a)[5:1]",
		"(-a)[5:1]":                              "(-a)[5:1]",
		"-5[5:1]":                                "-(5)[5:1]",
		"a+b":                                    "a + b",
		"a+-b":                                   "a + -b",
		"a--b":                                   "a - -b",
		"a---b":                                  "a - --b",
		"- - a":                                  "--a",
		"-(-(a))":                                "--a",
		"(a-b)-c":                                "a - b - c",
		"a-(b-c)":                                "a - (b - c)",
		"(a*b)+c":                                "a * b + c",
		"a*(b+c)":                                "a * (b + c)",
		"a+b*c-d/e%f":                            "a + b * c - d / e % f",
		"a or b and c unless d==e+f*-g":          "a or b and c unless d == e + f * -g",
		"((((((a or b) and c) == d) + e) * -f))": "((((a or b) and c) == d) + e) * -f",
		"a==b!=c>d<e>=f<=g":                      "a == b != c > d < e >= f <= g",
		"a==(b==c)":                              "a == (b == c)",
		"a>bool-b":                               "a > bool -b",
		"a>bool(b)":                              "a > bool b",
		"a>bool on(x)group_left(y)(b)":           "a > bool on(x) group_left(y) b",
		"a+on(b,a,c,a)b":                         "a + on(a, b, c) b",
		"a+ignoring( )group_right( y , x )b":     "a + ignoring() group_right(x, y) b",
		"a + on ( on , ignoring ) b":             "a + on(ignoring, on) b",
		"1or 2":                                  "1 or 2",
		"1and(2)":                                "1 and 2",
		"5bool":                                  "",
		"sum by(b,a,b)(up)":                      "sum by (a, b)(up)",
		"sum by ( ) ( up )":                      "sum by ()(up)",
		"sum without(sum,rate,by)(up)":           "sum without (by, rate, sum)(up)",
		"sum((up))":                              "sum(up)",
		"topk(5,up)":                             "topk(5, up)",
		"topk((1+2),(up))":                       "topk(1 + 2, up)",
		"quantile by(a)(5,up)":                   "quantile by (a)(5, up)",
		"rate(up[5])":                            "rate(up[5])",
		"rate((up[5]))":                          "rate(up[5])",
		"rate ( )":                               "rate()",
		"label_join(up,\"a\",\"\",\"b\",\"c\")":  "label_join(up, \"a\", \"\", \"b\", \"c\")",
		"up{a=\"b\",a=\"b\"}":                    "up{a=\"b\",a=\"b\"}",
		"up { a = \"b\" , c != \"d\" }":          "up{a=\"b\",c!=\"d\"}",
		"{a=~\"b\",c!~\"d\"}":                    "{a=~\"b\",c!~\"d\"}",
		"{bool=\"\",rate=\"\",_=\"\"}":           "{bool=\"\",rate=\"\",_=\"\"}",
		"\"a\\\"\\\\ )\"":                        "\"a\\\"\\\\ )\"",
		"0":                                      "0",
		"9223372036854775807":                    "9223372036854775807",
		"_name":                                  "_name",
		"offsets":                                "offsets",
		"Sum":                                    "Sum",
		"sum_":                                   "sum_",
		"a>=b":                                   "a >= b",
		"a> -b":                                  "a > -b",
		"a>-b":                                   "a > -b",
		"a<{x=\"\"}":                             "a < {x=\"\"}",
		"a==\"\"":                                "a == \"\"",
		"a=={x=\"\"}":                            "a == {x=\"\"}",
	} {
		got := checkReadQuery(t, text)
		if want == "" {
			if got.Err == 0 {
				t.Errorf("%q is read", text)
			}
			continue
		}
		if told := impl.QueryText(got.Node); got.Err != 0 || got.At != 0 || told != want {
			t.Errorf("%q: %d at %d, %q, not %q", text, got.Err, got.At, told, want)
		}
	}
}

// Err 2: where the `|` stands is the fault; it is no part of the text.
func TestPlacesOfFaults(t *testing.T) {
	for _, marked := range strings.Split(`|
|)
|]
|}
|,
|:
|@
|+
|*
|==
|=
|=~
|!
|!=
|#
|'
|?
|&
|007
|00
|01 + 1
|9223372036854775808
|99999999999999999999999
-|9223372036854775808
|"x
|"x\"
|"x\\\"
|"\x"
|"\
|"
"x"|"y
|or
|and
|unless
|bool
|on
|ignoring
|group_left
|group_right
|by
|without
|offset
|on(x)
-|
- -|
-|*
-|+
-|)
-|offset
(|
(|)
(up|
(up|,
(up)|)
(up)|(
(up)|up
(up)|{
(up)|offset 5
(up)|@ 5
(up) |offset 5
(up[5]) |@ 5
(up)[5|]
(up)[5:1|
(up)[5:1] offset 5 |offset 5
(up)[5:1] @ 5 |@ 5
(up)[5:1] @ 5 offset 0 |@ 5
(up + |)
up|)
up|]
up|}
up|,
up|:
up|=
up|=~"x"
up|(
up|"x"
up |5
up |up
up |rate
up |sum
up |bool
up |on
up |by
up |by (a)
up |group_left
up |time()
up |!
up |!~ 5
up|.
up |;
up|	up
up{|
up{|,
up{|)
up{|"x"
up{|5
up{|=
up{a|
up{a|}
up{a|,
up{a|==
up{a|=="x"
up{a|>"x"
up{a|<="x"
up{a|"x"
up{a |b
up{a=|
up{a=|b
up{a=|5
up{a=|}
up{a= |="x"
up{a= |~"x"
up{a=|"x
up{a="x"|
up{a="x"|b
up{a="x"|"y"
up{a="x"|)
up{a="x"|]
up{a="x" |b="y"}
up{a="x",|
up{a="x",|}
up{a="x",|,
up{a="x",|"y"
up{a="x"}|{
up{a="x"}|(
up{a="x"}|}
up{}|{}
up{}|(
{|
{|{
{}|{}
{} |up
{a="x"}|up
up offset|
up offset |-5
up offset |up
up offset |(
up offset |@
up offset |05
up offset |"5"
up offset 5 |offset
up offset 5 |5
up offset 5 |{
up offset 5 @ 5 |offset 5
up offset 5 @ 5 |@ 5
up @|
up @ |-5
up @ |up
up @ |@
up @ |offset
up @ 5 |@ 5
up @ 5 |5
up offset 0 |offset 0
up[|
up[|]
up[|:
up[|-5
up[|up
up[|05
up[|(
up[5|
up[5|,
up[5 |5
up[5|)
up[5|[
up[5:|
up[5:|]
up[5:|:
up[5:|-1
up[5:|up
up[5:1|
up[5:1|:
up[5:1|,
up[5]|[
up[5]|[5:1]
up[5]|[5]
up[5] |{
up[5]|(
up[5] offset 5|[5:1]
up[5] @ 5|[5:1]
up[5] offset 5 @ 5|[
up[5] offset 5 |offset 5
up[5:1]|{
up[5:1]|(
up[5:1][5|]
up[5:1][|]
up offset 5[5|]
up @ 5[5|]
up{}[5]|[5:1]
5|(
5|{
5|x
5 |5
5 |up
5[|
5|"x"
5 |offset 5
5 |@ 5
5[5|]
5[5|
"x"|(
"x"|{
"x" |5
"x" |offset 5
"x"[5|]
up +|
up + |)
up + |+
up + |*
up + |bool up
up + |group_left(x) up
up + |by (x) up
up + |offset
up == |==
up == |or
up == bool|
up == bool |bool up
up == bool |)
up == bool |group_left(x) up
up == on(x) |bool up
up and |bool up
up or |bool up
up unless |bool up
up + |bool up
up * |bool up
up and on(x) |group_left(y) up
up or on(x) |group_right(y) up
up unless ignoring(x) |group_left(y) up
up + on|
up + on |x
up + on |)
up + on |up
up + on(|
up + on(|,
up + on(|5
up + on(|"x"
up + on(|(
up + on(x|
up + on(x |y
up + on(x|(
up + on(x|=
up + on(x,|
up + on(x,|)
up + on(x,|,
up + on(x)|
up + on(x) |on(x) up
up + on(x) |ignoring(x) up
up + on(x) |)
up + on(x) |*
up + on(x) group_left|
up + on(x) group_left |up
up + on(x) group_left(|
up + on(x) group_left(y,|)
up + on(x) group_left(y)|
up + on(x) group_left(y) |group_left(y) up
up + on(x) group_left(y) |group_right(y) up
up + on(x) group_left(y) |on(x) up
up + ignoring(x) group_right |x
sum|
sum |up
sum |5
sum |"x"
sum |{
sum |[
sum |)
sum |+
sum |on (x)(up)
sum |offset
sum |sum
sum |@ 5
sum(|
sum(|)
sum(|,
sum(up|
sum(up|,
sum(up|]
sum(up|, up)
sum(up) |by (a)
sum(up) |without (a)
sum(up)|(
sum(up)|{
sum(up) |offset 5
sum(up) |@ 5
sum(up)[5|]
sum by|
sum by |a
sum by |{
sum by (|
sum by (|,
sum by (|5
sum by (a|
sum by (a |b
sum by (a,|)
sum by (a)|
sum by (a) |up
sum by (a) |by (a)(up)
sum by (a) |without (a)(up)
sum by (a)(|)
sum by (a)(up|,
sum without (a)(|)
sum without (a)(up)|(
min(up|,
max(up|,
avg(up|,
count(up|,
topk|
topk |5
topk(|)
topk(|,
topk(up|)
topk(5|)
topk(5,|)
topk(5,|,
topk(5,up|,
topk(5,up|,up)
topk(5 |up)
bottomk(5|)
bottomk(5,up|,5)
quantile(5|)
quantile(5,up|,5)
quantile by (a)(5|)
rate|
rate |up
rate |5
rate |{
rate |[
rate |by (a)(up)
rate |)
rate |+ 5
rate |offset 5
rate |rate
rate(|
rate(|,
rate(|]
rate(up|
rate(up|]
rate(up|}
rate(up |up
rate(up,|
rate(up,|)
rate(up,|,
rate(up)|(
rate(up)|{
rate(up) |offset 5
rate(up) |by (a)
rate(up)[5|]
rate(sum(up|,up))
sum(rate(up,up)|,up)
time|
time(|
time()|()
(a|, b)
a |b
aorb |b
a |orb
a or|
a |offset5
a |xor b
a |= b
a |=> b
a > |= b
a >= |= b
a |=~ "b"
a |!~ "b"
a == |= b
a |! = b
a < |> b
a % |% b
a |?
a + b |)
a + (b|
a + (b |c)
{a=|`, "\n") {
		at := strings.LastIndex(marked, "|")
		text := marked[:at] + marked[at+1:]
		if got := checkReadQuery(t, text); !same(got, impl.QueryRes{Err: 2, At: at}) {
			t.Errorf("%q: %d at %d, not at %d", text, got.Err, got.At, at)
		}
		// Behind the fault may stand anything, right or wrong.
		for _, more := range []string{" ", " up", " )", " 007", ` "`, " #", " + up", "   offset 5"} {
			behind := text + more
			if at == len(text) || strings.HasPrefix(text[at:], `"`) {
				continue
			}
			if got := checkReadQuery(t, behind); !same(got, impl.QueryRes{Err: 2, At: at}) {
				t.Errorf("%q: %d at %d, not at %d", behind, got.Err, got.At, at)
			}
		}
		// And ahead of it blanks.
		if got := checkReadQuery(t, "  "+text); !same(got, impl.QueryRes{Err: 2, At: at + 2}) {
			t.Errorf("%q: %d at %d", text, got.Err, got.At)
		}
		if at == len(text) && !strings.Contains(text, `"`) {
			if got := checkReadQuery(t, text+"  "); !same(got, impl.QueryRes{Err: 2, At: at + 2}) {
				t.Errorf("%q and blanks: %d at %d", text, got.Err, got.At)
			}
		}
	}
}

// Err 3: the language has these texts, but no good question is told by them; and what is just good beside each.
func TestTextsOfNoGoodQuestion(t *testing.T) {
	name, value := strings.Repeat("n", 40), strings.Repeat("v", 100)
	list := strings.Join(manyNames(10), ",")
	for bad, good := range map[string]string{
		"{}":                                     `{a=""}`,
		"{}[5]":                                  "up{}[5]",
		"{}[5:1]":                                "up{}[5:1]",
		"{} offset 5":                            "up{} offset 5",
		"sum({})":                                "sum(up{})",
		"-{}":                                    "-up{}",
		"rate(up, {})":                           "rate(up, up{})",
		"{} or up":                               "up or up",
		"up or ({})":                             "up or (up)",
		`{_name="up"}`:                           `{_names="up"}`,
		`up{a="",_name=~"up"}`:                   `up{a="",_nam=~"up"}`,
		`up{a=~"\\"}`:                            `up{a="\\"}`,
		`up{a!~"x\\y"}`:                          `up{a!="x\\y"}`,
		`up{a="` + value + `v"}`:                 `up{a="` + value + `"}`,
		"up{a=\"\n\"}":                           `up{a=" "}`,
		"up{a=\"\x7f\"}":                         `up{a="~"}`,
		"up{" + name + `n=""}`:                   "up{" + name + `=""}`,
		name + "n":                               name,
		name + "n[5]":                            name + "[5]",
		`"` + value + `v"`:                       `"` + value + `"`,
		`"` + value[1:] + `\\v"`:                 `"` + value[1:] + `\\"`,
		"\"\t\"":                                 `" "`,
		"\"\xff\"":                               `"~"`,
		"up[0]":                                  "up[1]",
		"up[1000000000001]":                      "up[1000000000000]",
		"up[9223372036854775807]":                "up[5]",
		"up[0:0]":                                "up[1:1]",
		"up[5:0]":                                "up[5:1]",
		"up[5:6]":                                "up[5:5]",
		"up[0:1]":                                "up[2:1]",
		"up[1000000000001:1]":                    "up[1000000000000:1]",
		"up offset 1000000000001":                "up offset 1000000000000",
		"up @ 1000000000001":                     "up @ 1000000000000",
		"up[5] offset 1000000000001":             "up[5] offset 1000000000000",
		"up[5] @ 1000000000001":                  "up[5] @ 1000000000000",
		"up[5:1] offset 1000000000001":           "up[5:1] offset 1000000000000",
		"up[5:1] @ 1000000000001":                "up[5:1] @ 1000000000000",
		"a + on(" + list + ",x) b":               "a + on(" + list + "," + list + ") b",
		"a + on() group_left(" + list + ",x) b":  "a + on() group_left(" + list + "," + list + ") b",
		"a + ignoring(" + name + "n) b":          "a + ignoring(" + name + ") b",
		"a + on(x) group_right(" + name + "n) b": "a + on(x) group_right(" + name + ") b",
		"sum by (" + list + ",x)(up)":            "sum by (n005," + list + ")(up)",
		"sum without (" + name + "n)(up)":        "sum without (" + name + ")(up)",
		"abs(1,2,3,4,5,6,7,8,9,10,11)":           "abs(1,2,3,4,5,6,7,8,9,10)",
		"abs(abs(1,2,3,4,5,6,7,8,9,10,11))":      "abs(abs(1,2,3,4,5,6,7,8,9,10))",
		strings.Repeat("-", 12) + "1":            strings.Repeat("-", 11) + "1",
		strings.Repeat("-", 12) + "(((1)))":      strings.Repeat("-", 11) + "(((1)))",
		strings.Repeat("-", 11) + "up[5]":        strings.Repeat("-", 10) + "up[5]",
		longText(calls(61)):                      longText(calls(60)),
	} {
		if got := checkReadQuery(t, bad); !same(got, impl.QueryRes{Err: 3}) {
			t.Errorf("%.80q: %d at %d", bad, got.Err, got.At)
		}
		if got := checkReadQuery(t, good); got.Err != 0 || !impl.GoodQuery(got.Node) {
			t.Errorf("%.80q: %d at %d", good, got.Err, got.At)
		}
		// A token that can't stand there counts, wherever it is; too long a text counts ahead of both.
		if got := checkReadQuery(t, bad+" )"); !same(got, impl.QueryRes{Err: 2, At: len(bad) + 1}) {
			t.Errorf("%.80q and more: %d at %d", bad, got.Err, got.At)
		}
		if got := checkReadQuery(t, "+"+bad); !same(got, impl.QueryRes{Err: 2}) {
			t.Errorf("+%.80q: %d at %d", bad, got.Err, got.At)
		}
		if got := impl.ReadQuery(bad + strings.Repeat(" ", maxQuery)); !same(got, impl.QueryRes{Err: 1}) {
			t.Errorf("%.80q and blanks: %d at %d", bad, got.Err, got.At)
		}
		if got := impl.ReadQuery("+" + bad + strings.Repeat(" ", maxQuery)); !same(got, impl.QueryRes{Err: 1}) {
			t.Errorf("+%.80q and blanks: %d at %d", bad, got.Err, got.At)
		}
	}
}

// Each byte alone, and behind and between tokens.
func TestEveryByteInAQuestion(t *testing.T) {
	for c := range 256 {
		s := string([]byte{byte(c)})
		for _, text := range []string{s, s + s, "up" + s, "up " + s, "up" + s + "up", "up " + s + " up", s + "up", "5" + s, "5" + s + "5", "up{a" + s + `"x"}`, `"` + s + `"`, `"\` + s + `"`, `up{a="` + s + `"}`, "up[" + s + "5]", "up[5" + s + "5]", "rate(" + s + ")", "-" + s, "a=" + s + "b", "a!" + s + "b", "a>" + s + "b"} {
			checkReadQuery(t, text)
		}
	}
}

// Promise 27: any bytes are read as something or refused, and what is asked of any nodes is answered.
func TestQuestionsOfAnything(t *testing.T) {
	r := rand.New(rand.NewSource(155))
	const signs = "up on(){}[],:@+-*/%><=!~\"\\ 0159"
	for range 5000 {
		noise := make([]byte, r.Intn(40))
		for i := range noise {
			noise[i] = oneOf(r, byte(r.Intn(256)), signs[r.Intn(len(signs))])
		}
		checkReadQuery(t, string(noise))
	}
	a := asker{r}
	for range 3000 {
		var q []impl.Query
		for range r.Intn(70) {
			x := a.any(1)[0]
			for range r.Intn(3) {
				a.change(&x)
			}
			q = append(q, x)
		}
		checkQuery(t, q)
	}
	many := slices.Repeat([]impl.Query{{Kind: impl.QNeg, Kids: 1}}, 1<<16)
	if impl.GoodQuery(many) || impl.QueryText(many) != "" || impl.KindOfQuery(many) != "" {
		t.Error("very many nodes")
	}
	great := []impl.Query{{Kind: impl.QCall, Text: "rate", Kids: math.MaxInt}, {Kind: impl.QNum}}
	if checkQuery(t, great) != "" {
		t.Error("very many kids")
	}
	wide := asked(askAgg(impl.AggSum, askSelect("up", manyMatchers(1<<12)...)), func(x *impl.Query) { x.By, x.Names = 1, manyNames(1<<12) })
	if checkQuery(t, wide) != "" {
		t.Error("very many names")
	}
	if got := impl.ReadQuery(strings.Repeat("(", 1<<20)); !same(got, impl.QueryRes{Err: 1}) {
		t.Errorf("a very long text: %d", got.Err)
	}
}

// Answers are new memory: what is written into one shows in no other answer.
func TestReadQuestionsAreNew(t *testing.T) {
	text := `sum by (a, b)(up{a="b",c="d"}) + on(a, b) group_left(c, d) count without (a, b)(up{a="b",c="d"}[5:1])`
	first, second := impl.ReadQuery(text), impl.ReadQuery(text)
	checkOwn(t, [][]impl.Query{first.Node, second.Node})
	for i, x := range first.Node {
		for _, list := range [][]string{x.Names, x.Extra} {
			for j := range list[:cap(list)] {
				list[:cap(list)][j] = "z"
			}
		}
		for j := range x.Match[:cap(x.Match)] {
			x.Match[:cap(x.Match)][j] = impl.Matcher{}
		}
		first.Node[i] = impl.Query{}
	}
	if impl.QueryText(second.Node) != strings.Replace(text, `(up{a="b",c="d"}[5:1])`, `((up{a="b",c="d"})[5:1])`, 1) || !same(impl.ReadQuery(text), second) {
		t.Error(impl.QueryText(second.Node))
	}
}

func TestKindsOfOperations(t *testing.T) {
	of := map[string][]impl.Query{"number": askNum(5), "text": askText("x"), "vector": askSelect("up"), "range": askRange(5, askSelect("up")), "": askNeg(askText("x"))}
	for left, a := range of {
		for right, b := range of {
			for op := impl.OpAdd; op <= impl.OpOr; op++ {
				for by := impl.ByNone; by <= impl.ByWithout; by++ {
					for _, isBool := range []bool{false, true} {
						if isBool && !isWithin(op, impl.OpSame, impl.OpMost) {
							continue
						}
						q := asked(askOp(op, a, b), func(x *impl.Query) { x.By, x.Bool = by, isBool })
						plain := by == impl.ByNone && op <= impl.OpMost
						want := ""
						switch left + " " + right {
						case "vector vector":
							want = "vector"
						case "vector number", "number vector":
							if plain {
								want = "vector"
							}
						case "number number":
							if plain && (op < impl.OpSame || isBool) {
								want = "number"
							}
						}
						checkQuery(t, q)
						if got := impl.KindOfQuery(q); got != want {
							t.Errorf("%q is %q, not %q", impl.QueryText(q), got, want)
						}
					}
				}
			}
		}
	}
	for kind, kid := range of {
		value := kind == "number" || kind == "vector"
		for want, q := range map[string][]impl.Query{"range": askSub(5, 1, kid), kind: askNeg(kid)} {
			if !value {
				want = ""
			}
			checkQuery(t, q)
			if got := impl.KindOfQuery(q); got != want {
				t.Errorf("%q is %q, not %q", impl.QueryText(q), got, want)
			}
		}
		for other, ahead := range of {
			for op := impl.AggSum; op <= impl.AggQuantile; op++ {
				q, want := askAgg(op, kid), ""
				if op >= impl.AggTop {
					q = askAgg(op, ahead, kid)
				}
				if kind == "vector" && (op < impl.AggTop || other == "number") {
					want = "vector"
				}
				checkQuery(t, q)
				if got := impl.KindOfQuery(q); got != want {
					t.Errorf("%q is %q, not %q", impl.QueryText(q), got, want)
				}
			}
		}
	}
}

// Each function with the kinds that it takes, one kid too few and too many, and each kid of another kind or of none.
func TestKindsOfCalls(t *testing.T) {
	of := map[string][]impl.Query{"n": askNum(5), "t": askText("x"), "v": askSelect("up"), "r": askRange(5, askSelect("up")), "s": askSub(5, 1, askNum(1)), "c": askCall("time"), "-": askNeg(askText("x")), "0": askCall("rate")}
	kinds := map[string]string{"n": "n", "t": "t", "v": "v", "r": "r", "s": "r", "c": "n", "-": "-", "0": "-"}
	call := func(name string, kids string) []impl.Query {
		var all [][]impl.Query
		for _, c := range kids {
			all = append(all, of[string(c)])
		}
		return askCall(name, all...)
	}
	takes := map[string]string{"clamp": "vnn", "hist_quantile": "nv", "label_join": "vttt", "label_set": "vtttt", "predict": "rn", "quantile_over": "nr", "vector": "n", "scalar": "v", "time": "", "abs": "v", "absent": "v", "timestamp": "v"}
	for _, name := range functionList {
		kids, known := takes[name]
		if !known {
			kids = "r"
		}
		gives := "vector"
		if name == "scalar" || name == "time" {
			gives = "number"
		}
		see := func(list string) {
			t.Helper()
			told := ""
			for _, c := range list {
				told += kinds[string(c)]
			}
			want := ""
			if told == kids || name == "label_join" && strings.HasPrefix(told, "vttt") && strings.Trim(told[1:], "t") == "" {
				want = gives
			}
			q := call(name, list)
			checkQuery(t, q)
			if got := impl.KindOfQuery(q); got != want {
				t.Errorf("%s of %q is %q, not %q", name, list, got, want)
			}
		}
		see(kids)
		for kind := range of {
			see(kids + kind)
			see(kind + kids)
			see(kind)
			see(kind + kind)
			for i := range kids {
				see(kids[:i] + kind + kids[i+1:])
			}
		}
		for i := range kids {
			see(kids[:i])
			see(kids[:i] + kids[i+1:])
		}
		for n := range 11 {
			see(strings.Repeat("t", n))
			see("v" + strings.Repeat("t", min(n, 9)))
		}
		see("vttttttttv")
		see("vtvttt")
	}
}

// One node without a kind, however deep, and there is none; of what is not good there is none, either.
func TestKindsOfDeepQuestions(t *testing.T) {
	a := asker{rand.New(rand.NewSource(156))}
	lost := 0
	for range 2000 {
		q := a.vector(8)
		if len(q) > 55 {
			continue
		}
		if impl.KindOfQuery(q) != "vector" {
			t.Fatalf("%q is %q", impl.QueryText(q), impl.KindOfQuery(q))
		}
		// A leaf becomes what has no kind.
		i := a.Intn(len(q))
		if q[i].Kids > 0 || i > 0 && q[i-1].Kind == impl.QRange {
			continue
		}
		q = slices.Concat(q[:i], askNeg(askText("x")), q[i+1:])
		if checkQuery(t, q); !impl.GoodQuery(q) || impl.KindOfQuery(q) != "" {
			t.Fatalf("%q is %q", impl.QueryText(q), impl.KindOfQuery(q))
		}
		lost++
	}
	if lost < 300 {
		t.Errorf("only %d", lost)
	}
	for text, want := range map[string]string{
		"up": "vector", "5": "number", `"x"`: "text", "up[5]": "range", "up[5:1]": "range", "5[5:1]": "range", `"x"[5:1]`: "", "up[5:1][5:1]": "", "(up[5])[5:1]": "",
		"-up": "vector", "-5": "number", `-"x"`: "", "-up[5]": "", "--up": "vector", `"x" + "x"`: "", "up + up[5]": "", "1 == 1": "", "1 == bool 1": "number", "up == up": "vector", "up == 1": "vector", "1 == bool up": "vector",
		"up and 1": "", "1 and 1": "", "up or up": "vector", "up + on() 1": "", "1 + on() 1": "", "1 + ignoring() up": "", "up + on() group_left() up": "vector",
		"sum(up)": "vector", "sum(5)": "", "sum(up[5])": "", "topk(5, up)": "vector", "topk(up, 5)": "", "topk(up, up)": "", "quantile(scalar(up), up)": "vector",
		"time()": "number", "time(5)": "", "scalar(up)": "number", "scalar(5)": "", "vector(5)": "vector", "vector(up)": "", "rate(up[5])": "vector", "rate(up)": "", "rate(up[5], 5)": "", "rate()": "", "rate(up[5:1])": "vector", "rate(time()[5:1])": "vector",
		"abs(rate(rate(up)))": "", "sum(abs(up and 1))": "", "vector(1 == 2)": "", "clamp(up, 1, scalar(vector(time())))": "vector",
	} {
		q := impl.ReadQuery(text)
		if got := impl.KindOfQuery(q.Node); q.Err != 0 || got != want {
			t.Errorf("%q is %q, not %q", text, got, want)
		}
	}
	for i, q := range eachRow() {
		if impl.KindOfQuery(append(slices.Clone(q), askNum(1)...)) != "" || impl.KindOfQuery(q[:len(q)-1]) != "" {
			t.Errorf("kind %d, not good", i+1)
		}
	}
}
