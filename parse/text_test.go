package parse_test

import (
	"math"
	"math/rand"
	"reflect"
	"strconv"
	"strings"
	"testing"

	"palimpsest/api"
	"palimpsest/parse"
)

// tells wants an expression to be spelt so.
func tells(t *testing.T, e api.Expr, want string) {
	t.Helper()
	if s := parse.Text(e); s != want {
		t.Errorf("Text(%s) = %s, want %s", strings.ReplaceAll(brief(struct{ e api.Expr }{e}), "\n", " "), brief(s), brief(want))
	}
}

// back wants an expression to be spelt so, and that to be read as the same expression.
func back(t *testing.T, e api.Expr, want string) {
	t.Helper()
	tells(t, e, want)
	reads(t, want, e)
	reads(t, strings.ToLower(want), e)
}

func TestTextOfSigns(t *testing.T) { // 19.3, 19.4
	for _, x := range signs() {
		back(t, op(x.op, a(), b()), "(a "+x.text+" b)")
		back(t, op(x.op, op(x.op, a(), b()), c()), "((a "+x.text+" b) "+x.text+" c)")
		back(t, op(x.op, a(), op(x.op, b(), c())), "(a "+x.text+" (b "+x.text+" c))")
		tells(t, op(x.op), "( "+x.text+" )")
		tells(t, op(x.op, a()), "(a "+x.text+" )")
		tells(t, op(x.op, api.Expr{}, b()), "( "+x.text+" b)")
		tells(t, op(x.op, op(99), op(-1)), "( "+x.text+" )")
		tells(t, api.Expr{Op: x.op, Kids: []api.Expr{a(), b()}, Not: true, Star: true, Name: "n", Table: "t", T: 1, C: 2, V: api.Value{Type: 1}}, "(a "+x.text+" b)")
	}
}

func TestTextOfForms(t *testing.T) { // 19.3, 19.4
	back(t, op(api.XNot, a()), "(NOT a)")
	back(t, op(api.XNot, op(api.XNot, a())), "(NOT (NOT a))")
	back(t, op(api.XNeg, a()), "(- a)")
	back(t, op(api.XNeg, op(api.XNeg, num(1))), "(- (- 1))")
	back(t, op(api.XIsNull, a()), "(a IS NULL)")
	back(t, no(op(api.XIsNull, a())), "(a IS NOT NULL)")
	back(t, op(api.XIn, a(), b()), "(a IN (b))")
	back(t, op(api.XIn, a(), b(), c(), num(1)), "(a IN (b, c, 1))")
	back(t, no(op(api.XIn, a(), op(api.XIn, b(), c()))), "(a NOT IN ((b IN (c))))")
	back(t, op(api.XBetween, a(), b(), c()), "(a BETWEEN b AND c)")
	back(t, no(op(api.XBetween, a(), b(), c())), "(a NOT BETWEEN b AND c)")
	back(t, op(api.XOr, op(api.XAnd, a(), op(api.XNot, b())), op(api.XNeg, c())), "((a AND (NOT b)) OR (- c))")
	back(t, a(), "a")
	back(t, of("t", "n"), "t.n")
	back(t, star(), "COUNT(*)")
	back(t, agg("sum", op(api.XAdd, a(), b())), "SUM((a + b))")
	back(t, agg("count", a()), "COUNT(a)")
	back(t, call("length", text("")), "LENGTH('')")
	back(t, call("coalesce", a(), null(), truth(true)), "COALESCE(a, NULL, TRUE)")
	back(t, call("f_1z", truth(false)), "F_1Z(FALSE)")
	back(t, op(api.XLt, call("abs", agg("max", a())), op(api.XMod, num(7), of("a", "b"))), "(ABS(MAX(a)) < (7 % a.b))")
}

func TestTextOfLiterals(t *testing.T) { // 19.3, 19.4
	back(t, null(), "NULL")
	back(t, truth(true), "TRUE")
	back(t, truth(false), "FALSE")
	for _, n := range []int{0, 1, 9, 10, 1 << 31, 1 << 32, math.MaxInt - 1, math.MaxInt} {
		back(t, num(n), strconv.Itoa(n))
	}
	for _, s := range []string{"", "a", "it's", "''", "NULL", "a b", "--", "\n", "(", "\x00", "\xff\xfe", "é"} {
		tells(t, text(s), "'"+strings.ReplaceAll(s, "'", "''")+"'")
		reads(t, parse.Text(text(s)), text(s))
	}
	for n, want := range map[int]string{-1: "(- 1)", -10: "(- 10)", math.MinInt: "((- 9223372036854775807) - 1)", math.MinInt + 1: "(- 9223372036854775807)", -1 << 32: "(- 4294967296)"} {
		tells(t, num(n), want)
		e, err, at := parse.Expr(want)
		if err != api.OK || parse.Text(e) != want {
			t.Errorf("Expr(%q) = %s, %d, %d", want, brief(e), err, at)
		}
		tells(t, op(api.XAdd, num(n), a()), "("+want+" + a)")
		tells(t, op(api.XNeg, num(n)), "(- "+want+")")
		tells(t, op(api.XIn, a(), num(n), num(1)), "(a IN ("+want+", 1))")
	}
	for _, v := range []api.Value{{Type: -1, Int: -1, Text: "a"}, {Type: 4, Int: -1, Text: "a", Bool: true}, {Type: 99}, {Int: -5}, {Text: "x", Bool: true}, {Type: math.MinInt}} {
		tells(t, api.Expr{Op: api.XLit, V: v}, "NULL")
	}
	tells(t, api.Expr{Op: api.XLit, V: api.Value{Type: api.TText, Int: -5, Text: "x"}}, "'x'")
	tells(t, api.Expr{Op: api.XLit, V: api.Value{Type: api.TBool, Int: -5}}, "FALSE")
	tells(t, api.Expr{Op: api.XLit, V: api.Value{Type: api.TInt, Int: 5, Text: "x", Bool: true}}, "5")
}

func TestTextOfColumns(t *testing.T) { // 19.3
	tells(t, api.Expr{Op: api.XCol}, "#0.0")
	tells(t, api.Expr{Op: api.XCol, T: 1, C: 2}, "#1.2")
	tells(t, api.Expr{Op: api.XCol, T: 12, C: 345, Name: "a", Table: "t", Kids: []api.Expr{a()}}, "#12.345")
	tells(t, api.Expr{Op: api.XCol, T: -1, C: math.MinInt}, "#-1.-9223372036854775808")
	tells(t, op(api.XAdd, api.Expr{Op: api.XCol, T: 0, C: 1}, num(1)), "(#0.1 + 1)")
	wrong(t, "#0.1", api.ErrSyntax, 0)
}

// TestTextOfNone: of an Op that is none, and in the place of a kid that is missing, stands the empty text.
func TestTextOfNone(t *testing.T) { // 19.3, 19.5
	for _, n := range []int{0, -1, 25, 26, 99, math.MinInt, math.MaxInt, 256 + api.XOr, 1<<32 + api.XLit} {
		tells(t, op(n), "")
		tells(t, api.Expr{Op: n, V: api.Value{Type: 1, Int: 7}, Table: "t", Name: "n", T: 1, C: 2, Not: true, Star: true, Kids: []api.Expr{a(), b(), c()}}, "")
		tells(t, op(api.XNot, op(n, a())), "(NOT )")
		tells(t, op(api.XIn, a(), op(n), b(), op(n)), "(a IN (, b, ))")
		tells(t, call("f", op(n, a())), "F()")
		tells(t, call("f", op(n), op(n)), "F(, )")
		tells(t, op(api.XBetween, op(n), b(), op(n)), "( BETWEEN b AND )")
	}
	for n, want := range map[int][]string{
		api.XNot: {"(NOT )"}, api.XNeg: {"(- )"}, api.XIsNull: {"( IS NULL)"}, api.XIn: {"( IN ())", "(a IN ())"},
		api.XBetween: {"( BETWEEN  AND )", "(a BETWEEN  AND )", "(a BETWEEN b AND )"}, api.XAgg: {"()"}, api.XCall: {"()"},
	} {
		for i, s := range want {
			tells(t, op(n, []api.Expr{a(), b()}[:i]...), s)
		}
	}
	tells(t, no(op(api.XIsNull)), "( IS NOT NULL)")
	tells(t, no(op(api.XIn)), "( NOT IN ())")
	tells(t, no(op(api.XBetween)), "( NOT BETWEEN  AND )")
	tells(t, api.Expr{Op: api.XAgg, Name: "sum"}, "SUM()")
	tells(t, api.Expr{Op: api.XAgg, Name: "sum", Star: true, Kids: []api.Expr{a()}}, "SUM(*)")
	tells(t, api.Expr{Op: api.XAgg, Star: true}, "(*)")
	tells(t, api.Expr{Op: api.XCall, Name: "f", Star: true, Kids: []api.Expr{a()}}, "F(a)")
	tells(t, name(""), "")
	tells(t, of("t", ""), "t.")
	tells(t, op(api.XAdd, name(""), name("")), "( + )")
}

// TestTextOfManyKids: those that a form does not have are not told.
func TestTextOfManyKids(t *testing.T) { // 19.3
	more := []api.Expr{a(), b(), c(), num(4), num(5)}
	tells(t, op(api.XAdd, more...), "(a + b)")
	tells(t, op(api.XNot, more...), "(NOT a)")
	tells(t, op(api.XNeg, more...), "(- a)")
	tells(t, op(api.XIsNull, more...), "(a IS NULL)")
	tells(t, op(api.XBetween, more...), "(a BETWEEN b AND c)")
	tells(t, op(api.XIn, more...), "(a IN (b, c, 4, 5))")
	tells(t, call("f", more...), "F(a, b, c, 4, 5)")
	tells(t, api.Expr{Op: api.XName, Name: "n", Kids: more}, "n")
	tells(t, api.Expr{Op: api.XLit, V: api.Value{Type: api.TInt, Int: 3}, Kids: more}, "3")
}

// upper tells a text with A to Z in the place of a to z.
func upper(s string) string {
	for c := 'a'; c <= 'z'; c++ {
		s = strings.ReplaceAll(s, string(c), string(c-'a'+'A'))
	}
	return s
}

// TestTextOfNames: names are told as they are, those of calls in capital letters, A to Z alone.
func TestTextOfNames(t *testing.T) { // 19.3, W12
	for _, s := range []string{"a", "A", "aB_9", "select", "it's", "@", "(", "", " ", "\x00", "\xFF", "é", "ß", "\u017F", "\u212A", "a\xFFz\x80", "ǆ"} {
		tells(t, name(s), s)
		if s != "" {
			tells(t, of(s, s), s+"."+s)
		}
		tells(t, call(s, a()), upper(s)+"(a)")
		tells(t, agg(s, a()), upper(s)+"(a)")
		tells(t, api.Expr{Op: api.XAgg, Name: s, Star: true}, upper(s)+"(*)")
	}
}

// TestTextOfDeepTrees: a tree of as many forms within each other as memory has is spelt.
func TestTextOfDeepTrees(t *testing.T) { // 19.3, 19.5
	const n = 1 << 18
	e := a()
	for range n {
		e = op(api.XNeg, e)
	}
	if s := parse.Text(e); s != strings.Repeat("(- ", n)+"a"+strings.Repeat(")", n) {
		t.Error(len(s), brief(s))
	}
	e = a()
	for range n {
		e = op(api.XCat, e, b())
	}
	if s := parse.Text(e); s != strings.Repeat("(", n)+"a"+strings.Repeat(" || b)", n) {
		t.Error(len(s), brief(s))
	}
	e = a()
	for range n / 4 {
		e = no(op(api.XIn, b(), c(), e))
	}
	if s := parse.Text(e); s != strings.Repeat("(b NOT IN (c, ", n/4)+"a"+strings.Repeat("))", n/4) {
		t.Error(len(s), brief(s))
	}
	l := make([]api.Expr, n)
	for i := range l {
		l[i] = a()
	}
	if s := parse.Text(call("f", l...)); s != "F("+strings.Repeat(", a", n)[2:]+")" {
		t.Error(len(s), brief(s))
	}
	if s := parse.Text(op(api.XIn, l...)); s != "(a IN ("+strings.Repeat(", a", n-1)[2:]+"))" {
		t.Error(len(s), brief(s))
	}
}

// wild makes whatever expressions.
func wild(g *rand.Rand, depth int) api.Expr {
	e := api.Expr{Op: g.Intn(28) - 1, Name: []string{"a", "count", "", "'\xFF"}[g.Intn(4)], Table: []string{"", "", "t"}[g.Intn(3)], T: g.Intn(5) - 2, C: g.Intn(5) - 2, Not: g.Intn(2) == 0, Star: g.Intn(3) == 0}
	e.V = api.Value{Type: g.Intn(6) - 1, Int: g.Intn(9) - 4, Text: []string{"", "it's"}[g.Intn(2)], Bool: g.Intn(2) == 0}
	if depth > 0 {
		for range g.Intn(5) {
			e.Kids = append(e.Kids, wild(g, depth-1))
		}
	}
	return e
}

// wordily spells an expression a second time, by the words of 19.3.
func wordily(e api.Expr) string {
	kid := func(i int) string {
		if i >= len(e.Kids) {
			return ""
		}
		return wordily(e.Kids[i])
	}
	kids := func(from int) string {
		var l []string
		for i := from; i < len(e.Kids); i++ {
			l = append(l, kid(i))
		}
		return strings.Join(l, ", ")
	}
	not := map[bool]string{true: "NOT "}[e.Not]
	for _, x := range signs() {
		if x.op == e.Op {
			return "(" + kid(0) + " " + x.text + " " + kid(1) + ")"
		}
	}
	switch e.Op {
	case api.XNot:
		return "(NOT " + kid(0) + ")"
	case api.XNeg:
		return "(- " + kid(0) + ")"
	case api.XIsNull:
		return "(" + kid(0) + " IS " + not + "NULL)"
	case api.XIn:
		return "(" + kid(0) + " " + not + "IN (" + kids(1) + "))"
	case api.XBetween:
		return "(" + kid(0) + " " + not + "BETWEEN " + kid(1) + " AND " + kid(2) + ")"
	case api.XName:
		return strings.TrimPrefix(e.Table+"."+e.Name, map[bool]string{true: "."}[e.Table == ""])
	case api.XCol:
		return "#" + strconv.Itoa(e.T) + "." + strconv.Itoa(e.C)
	case api.XAgg, api.XCall:
		if e.Star && e.Op == api.XAgg {
			return upper(e.Name) + "(*)"
		}
		return upper(e.Name) + "(" + kids(0) + ")"
	case api.XLit:
		switch {
		case e.V.Type == api.TInt && e.V.Int < 0:
			return "(- " + strconv.Itoa(-e.V.Int) + ")"
		case e.V.Type == api.TInt:
			return strconv.Itoa(e.V.Int)
		case e.V.Type == api.TText:
			return "'" + strings.ReplaceAll(e.V.Text, "'", "''") + "'"
		case e.V.Type == api.TBool:
			return strings.ToUpper(strconv.FormatBool(e.V.Bool))
		}
		return "NULL"
	}
	return ""
}

// TestTextOfWhatever: expressions of whatever fields are spelt by the chapter's words.
func TestTextOfWhatever(t *testing.T) { // 19.3, 19.5
	g := rand.New(rand.NewSource(3))
	for range 60000 {
		e := wild(g, 4)
		s, want := parse.Text(e), wordily(e)
		if s != want {
			t.Fatalf("Text(%#v) = %q, want %q", e, s, want)
		}
	}
}

// TestTextChangesNothing: an expression is as it was.
func TestTextChangesNothing(t *testing.T) { // DOC's rule 3
	for n := range int64(300) {
		e, same := wild(rand.New(rand.NewSource(n)), 4), wild(rand.New(rand.NewSource(n)), 4)
		parse.Text(e)
		if !reflect.DeepEqual(e, same) {
			t.Fatalf("%#v has become %#v", same, e)
		}
	}
}
