package parse_test

import (
	"fmt"
	"math"
	"reflect"
	"strings"
	"testing"

	"palimpsest/api"
	"palimpsest/parse"
)

func num(n int) api.Expr {
	return api.Expr{Op: api.XLit, V: api.Value{Type: api.TInt, Int: n}}
}
func text(s string) api.Expr {
	return api.Expr{Op: api.XLit, V: api.Value{Type: api.TText, Text: s}}
}
func truth(is bool) api.Expr {
	return api.Expr{Op: api.XLit, V: api.Value{Type: api.TBool, Bool: is}}
}
func null() api.Expr                      { return api.Expr{Op: api.XLit} }
func name(s string) api.Expr              { return api.Expr{Op: api.XName, Name: s} }
func of(t, s string) api.Expr             { return api.Expr{Op: api.XName, Table: t, Name: s} }
func op(n int, kids ...api.Expr) api.Expr { return api.Expr{Op: n, Kids: kids} }
func no(e api.Expr) api.Expr              { e.Not = true; return e }
func agg(s string, kid api.Expr) api.Expr {
	return api.Expr{Op: api.XAgg, Name: s, Kids: []api.Expr{kid}}
}
func star() api.Expr                           { return api.Expr{Op: api.XAgg, Name: "count", Star: true} }
func call(s string, kids ...api.Expr) api.Expr { return api.Expr{Op: api.XCall, Name: s, Kids: kids} }

// brief spells what can be very long.
func brief(x any) string {
	s := fmt.Sprintf("%#v", x)
	if e, ok := x.(api.Expr); ok {
		s = fmt.Sprintf("%d %q", e.Op, parse.Text(e))
	}
	if len(s) > 700 {
		s = s[:700] + " .."
	}
	return s
}

// reads wants a text to be just this expression.
func reads(t *testing.T, s string, want api.Expr) {
	t.Helper()
	e, err, at := parse.Expr(s)
	if err != api.OK || at != 0 || !reflect.DeepEqual(e, want) {
		t.Errorf("Expr(%s) = %s, %d, %d; want %s", brief(s), brief(e), err, at, brief(want))
	}
}

// states wants a text to be just this statement.
func states(t *testing.T, s string, want api.Stmt) {
	t.Helper()
	x, err, at := parse.Statement(s)
	if err != api.OK || at != 0 || !reflect.DeepEqual(x, want) {
		t.Errorf("Statement(%s) = %s, %d, %d; want %s", brief(s), brief(x), err, at, brief(want))
	}
}

// wrong wants a text to be no expression, for that reason at that place.
func wrong(t *testing.T, s string, reason api.Errno, place int) {
	t.Helper()
	e, err, at := parse.Expr(s)
	if err != reason || at != place || !reflect.DeepEqual(e, api.Expr{}) {
		t.Errorf("Expr(%s) = %s, %d, %d; want nothing, %d, %d", brief(s), brief(e), err, at, reason, place)
	}
}

// refused wants a text to be no statement, for that reason at that place.
func refused(t *testing.T, s string, reason api.Errno, place int) {
	t.Helper()
	x, err, at := parse.Statement(s)
	if err != reason || at != place || !reflect.DeepEqual(x, api.Stmt{}) {
		t.Errorf("Statement(%s) = %s, %d, %d; want nothing, %d, %d", brief(s), brief(x), err, at, reason, place)
	}
}

// cut takes a text's mark ^ out, and tells where it stood: no token has that byte.
func cut(t *testing.T, s string) (string, int) {
	t.Helper()
	ahead, behind, ok := strings.Cut(s, "^")
	if !ok {
		t.Fatalf("%q has no mark", s)
	}
	return ahead + behind, len(ahead)
}

// misread wants each text to be no expression, at its mark.
func misread(t *testing.T, l ...string) {
	t.Helper()
	for _, s := range l {
		s, at := cut(t, s)
		wrong(t, s, api.ErrSyntax, at)
	}
}

// misstated wants each text to be no statement, at its mark.
func misstated(t *testing.T, l ...string) {
	t.Helper()
	for _, s := range l {
		s, at := cut(t, s)
		refused(t, s, api.ErrSyntax, at)
	}
}

func a() api.Expr { return name("a") }
func b() api.Expr { return name("b") }
func c() api.Expr { return name("c") }

// signs are the forms of two kids, by rising strength; those of a like number are put together from the left, but of the comparisons only one may stand.
func signs() []struct {
	text         string
	op, strength int
} {
	return []struct {
		text         string
		op, strength int
	}{
		{"OR", api.XOr, 1}, {"AND", api.XAnd, 2},
		{"=", api.XEq, 4}, {"<>", api.XNe, 4}, {"<", api.XLt, 4}, {"<=", api.XLe, 4}, {">", api.XGt, 4}, {">=", api.XGe, 4},
		{"+", api.XAdd, 5}, {"-", api.XSub, 5}, {"||", api.XCat, 5},
		{"*", api.XMul, 6}, {"/", api.XDiv, 6}, {"%", api.XMod, 6},
	}
}

func TestExamples(t *testing.T) { // 19.1, 19.2
	reads(t, "a + 2 * b", op(api.XAdd, a(), op(api.XMul, num(2), b())))
	reads(t, "NOT a = 1 AND b", op(api.XAnd, op(api.XNot, op(api.XEq, a(), num(1))), b()))
	wrong(t, "a = b = c", api.ErrSyntax, 6)
	wrong(t, "a b", api.ErrSyntax, 2)
	states(t, "SELECT * FROM t LIMIT 1", api.Stmt{Kind: api.SSelect, Items: []api.Item{{Star: true}}, From: []api.Ref{{Table: "t", Alias: "t"}}, Limit: 1})
}

func TestLiterals(t *testing.T) { // 19.1
	for s, n := range map[string]int{"0": 0, "00": 0, "007": 7, "9223372036854775807": math.MaxInt, " 1 -- x": 1} {
		reads(t, s, num(n))
	}
	reads(t, "NULL", null())
	reads(t, "null", null())
	reads(t, "True", truth(true))
	reads(t, "FALSE", truth(false))
	for _, s := range []string{"", "a", "it's", "--", "\x00\xFF", "A"} {
		reads(t, "'"+strings.ReplaceAll(s, "'", "''")+"'", text(s))
	}
	misread(t, "1 ^2", "1^'a'", "'a' ^'b'", "null ^null", "true ^false", "1^.5", "a ^1", "1 ^a", "null ^1", "'a'^.b", "null^(1)", "1^(2)", "'a'^('b')")
}

// TestTextsAreNoWords: a text that says what a word or a sign would is a text.
func TestTextsAreNoWords(t *testing.T) { // 19.1, 19.2
	for _, s := range []string{"a", "null", "true", "false", "not", "and", "or", "(", ")", "-", "*", "count", "sum", "length", "coalesce", "in", "is", "between", "+", "||", "=", ",", ".", ";", "select", "from", "1", ""} {
		reads(t, "'"+s+"'", text(s))
		reads(t, "NOT '"+s+"' = a", op(api.XNot, op(api.XEq, text(s), a())))
		misread(t, "a ^'"+s+"' b", "a ^'"+s+"'", "a = b ^'"+s+"' c", "'"+s+"' ^'"+s+"'", "'"+s+"'^(a)", "a.^'"+s+"'", "count^'"+s+"'", "length(a^'"+s+"'", "a in ^'"+s+"'", "a is ^'"+s+"'", "a not ^'"+s+"'", "a between 1 ^'"+s+"' 2", "count(a^'"+s+"'")
		misstated(t, "^'"+s+"'", "select a ^'"+s+"' t", "select a from ^'"+s+"'", "select a from t ^'"+s+"'", "select a as ^'"+s+"' from t", "create ^'"+s+"'", "begin^'"+s+"'", "drop table ^'"+s+"'", "insert into t values ^'"+s+"'", "update t set ^'"+s+"'", "update t set a ^'"+s+"'", "rollback ^'"+s+"'", "select a from t limit ^'"+s+"'", "create table t (a ^'"+s+"'", "create table t (a int ^'"+s+"'", "explain ^'"+s+"'", "create index i on t ^'"+s+"'", "select a from t order by a ^'"+s+"'", "select a from t group ^'"+s+"'", "delete ^'"+s+"'", "savepoint ^'"+s+"'", "release ^'"+s+"'")
	}
	states(t, "select '*' from t", api.Stmt{Kind: api.SSelect, Items: []api.Item{{E: text("*")}}, From: []api.Ref{{Table: "t", Alias: "t"}}, Limit: -1})
}

func TestNames(t *testing.T) { // 19.1
	long := strings.Repeat("x", 32)
	for _, s := range []string{"a", "_", "a_1", "abs", "avg", "like", "float", "double", "t", "values_", "sums", "counted", "nulls", long} {
		reads(t, s, name(s))
		reads(t, strings.ToUpper(s), name(s))
		reads(t, s+"."+s, of(s, s))
		reads(t, s+" --x\n.\t"+strings.ToUpper(s), of(s, s))
		reads(t, s+".b+t."+s, op(api.XAdd, of(s, "b"), of("t", s)))
	}
	misread(t, "a.^", "a.^1", "a.^.b", "a.^*", "a.b^.c", "^.a", "a .^1", "a.^(b)", "a.b^(c)", "a.^'b'", "^*", "a.^null")
}

func reserved() []string {
	return strings.Fields(`all and as asc begin between bool by coalesce column commit count create delete desc distinct drop end exists explain false from group having in index inner insert int into is join key length limit max min not null offset on or order primary release rollback savepoint select set sum table text to true unique update values where`)
}

// TestReservedWords: each of them fits where 19.1 has it alone, and nowhere as a name.
func TestReservedWords(t *testing.T) { // 19.1, 19.2
	for _, s := range reserved() {
		misstated(t, "create table ^"+s+" (a int)", "create table t (^"+s+" int)", "drop table ^"+s, "create index ^"+s+" on t (a)", "create index i on ^"+s+" (a)", "create index i on t (^"+s+")", "drop index ^"+s, "insert into ^"+s+" values (1)", "insert into t (^"+s+") values (1)", "insert into t (a, ^"+s+") values (1)", "update ^"+s+" set a = 1", "update t set ^"+s+" = 1", "update t set a = 1, ^"+s+" = 1", "delete from ^"+s, "savepoint ^"+s, "rollback to ^"+s, "release ^"+s, "select a from ^"+s, "select a from t as ^"+s, "select a from t join ^"+s+" on true", "select a as ^"+s+" from t")
		misread(t, "a.^"+s)
		switch s {
		case "null", "true", "false":
			misread(t, s+"^.a", s+"^(a)")
		case "not":
			misread(t, "not^", "not^.a", "a + ^not b")
		case "count", "sum", "min", "max", "length", "coalesce":
			misread(t, s+"^", s+"^.a", s+" ^a", "1 + "+s+"^", "("+s+"^)", "a ^"+s+"(b)", "a.^"+s+"(b)")
		default:
			misread(t, "^"+s, "1 + ^"+s, "(^"+s+")", "f(^"+s+")", "^"+s+".a", "^"+s+"(a)", "not ^"+s, "- ^"+s)
		}
	}
}

// TestPairsOfSigns: of two signs the stronger one binds, and of two of like strength the left one.
func TestPairsOfSigns(t *testing.T) { // 19.1
	for _, x := range signs() {
		reads(t, "a"+" "+x.text+" "+"b", op(x.op, a(), b()))
		reads(t, strings.ToLower("A\n"+x.text+"\tB"), op(x.op, a(), b()))
		misread(t, "a "+x.text+"^", "a "+x.text+" ^)", "a "+x.text+" ^= b", "(a "+x.text+"^", "a "+x.text+" b ^c", "a "+x.text+" ^or b")
		if x.text != "-" {
			misread(t, "^"+x.text+" a", "^"+x.text)
		}
		for _, y := range signs() {
			s := "a " + x.text + " b " + y.text + " c"
			left, right := op(y.op, op(x.op, a(), b()), c()), op(x.op, a(), op(y.op, b(), c()))
			switch {
			case x.strength == 4 && y.strength == 4:
				misread(t, "a "+x.text+" b ^"+y.text+" c", "(a) "+x.text+" (b) ^"+y.text+" (c)")
			case x.strength < y.strength:
				reads(t, s, right)
			default:
				reads(t, s, left)
			}
			reads(t, "(a "+x.text+" b) "+y.text+" c", left)
			reads(t, "a "+x.text+" (b "+y.text+" c)", right)
		}
	}
}

func TestNotAndMinus(t *testing.T) { // 19.1
	for _, x := range signs() {
		s := "a " + x.text + " b"
		if x.strength > 3 {
			reads(t, "not "+s, op(api.XNot, op(x.op, a(), b())))
			misread(t, "a "+x.text+" ^not b")
		} else {
			reads(t, "not "+s, op(x.op, op(api.XNot, a()), b()))
			reads(t, "a "+x.text+" not b", op(x.op, a(), op(api.XNot, b())))
		}
		reads(t, "not ("+s+")", op(api.XNot, op(x.op, a(), b())))
		reads(t, "- "+s, op(x.op, op(api.XNeg, a()), b()))
		reads(t, "a "+x.text+" - b", op(x.op, a(), op(api.XNeg, b())))
		reads(t, "-("+s+")", op(api.XNeg, op(x.op, a(), b())))
	}
	reads(t, "-1", op(api.XNeg, num(1)))
	reads(t, "- - 'x'", op(api.XNeg, op(api.XNeg, text("x"))))
	reads(t, "1- -1", op(api.XSub, num(1), op(api.XNeg, num(1))))
	reads(t, "1--1", num(1))
	reads(t, "- a.b", op(api.XNeg, of("a", "b")))
	reads(t, "- f(a)", op(api.XNeg, call("f", a())))
	reads(t, "not not a", op(api.XNot, op(api.XNot, a())))
	reads(t, "not - a", op(api.XNot, op(api.XNeg, a())))
	reads(t, "not a is null", op(api.XNot, op(api.XIsNull, a())))
	reads(t, "not a not in (b)", op(api.XNot, no(op(api.XIn, a(), b()))))
	reads(t, "not a between b and c", op(api.XNot, op(api.XBetween, a(), b(), c())))
	reads(t, "- a is null", op(api.XIsNull, op(api.XNeg, a())))
	reads(t, "-(not a)", op(api.XNeg, op(api.XNot, a())))
	reads(t, "-9223372036854775807-1", op(api.XSub, op(api.XNeg, num(math.MaxInt)), num(1)))
	wrong(t, "-9223372036854775808", api.ErrSyntax, 1)
	misread(t, "- ^not a", "not^", "-^", "- ^", "not ^= a", "not ^)", "-^*a", "^+a", "a not^", "a not ^b", "a not ^not in (b)", "a not ^is null", "a not ^null", "a not ^)")
}

// TestOneComparison: at most one sign, IS, IN or BETWEEN stands between the forms from a + b on.
func TestOneComparison(t *testing.T) { // 19.1
	ones := []string{"= a", "<> a + 1", "< -a", "<= a", "> a", ">= a * b", "is null", "is not null", "in (a)", "not in (a, b = c)", "between a and b", "not between - a and b || c"}
	for _, x := range ones {
		for _, y := range ones {
			misread(t, "c "+x+" ^"+y, "not c "+x+" ^"+y, "a and c "+x+" ^"+y, "(c "+x+" ^"+y)
			for _, z := range []string{"and", "or"} {
				s := "c " + x + " " + z + " c " + y
				e, err, at := parse.Expr(s)
				if err != api.OK || len(e.Kids) != 2 || e.Op != map[string]int{"and": api.XAnd, "or": api.XOr}[z] {
					t.Errorf("Expr(%q) = %s, %d, %d", s, brief(e), err, at)
				}
			}
			e, err, at := parse.Expr("(c " + x + ") " + y)
			if err != api.OK || e.Kids[0].Op == api.XName {
				t.Errorf("(c %s) %s: %s, %d, %d", x, y, brief(e), err, at)
			}
		}
	}
	misread(t, "a is null ^+ 1", "a in (b) ^+ 1", "a is not null ^* 1", "a not in (b) ^- c", "a is null ^|| b", "a in (b) ^in (c)")
	reads(t, "a = b + c", op(api.XEq, a(), op(api.XAdd, b(), c())))
	reads(t, "a + b = c", op(api.XEq, op(api.XAdd, a(), b()), c()))
	reads(t, "a = (b = c)", op(api.XEq, a(), op(api.XEq, b(), c())))
	reads(t, "(a is null) + 1", op(api.XAdd, op(api.XIsNull, a()), num(1)))
}

// TestNotStaysInItsForm: what is negated in parentheses stays so, and so does what is not.
func TestNotStaysInItsForm(t *testing.T) { // 19.1
	for s, want := range map[string]api.Expr{
		"(a is not null)":                         no(op(api.XIsNull, a())),
		"((a not in (b)))":                        no(op(api.XIn, a(), b())),
		"(a not between b and c)":                 no(op(api.XBetween, a(), b(), c())),
		"(a is not null) is null":                 op(api.XIsNull, no(op(api.XIsNull, a()))),
		"(a is null) is not null":                 no(op(api.XIsNull, op(api.XIsNull, a()))),
		"(a not in (b)) in (c)":                   op(api.XIn, no(op(api.XIn, a(), b())), c()),
		"(a in (b)) not in (c)":                   no(op(api.XIn, op(api.XIn, a(), b()), c())),
		"(a not in (b)) = c":                      op(api.XEq, no(op(api.XIn, a(), b())), c()),
		"a = (b is not null)":                     op(api.XEq, a(), no(op(api.XIsNull, b()))),
		"a not in (b in (c))":                     no(op(api.XIn, a(), op(api.XIn, b(), c()))),
		"a in (b not in (c))":                     op(api.XIn, a(), no(op(api.XIn, b(), c()))),
		"- (a is not null)":                       op(api.XNeg, no(op(api.XIsNull, a()))),
		"(a not between b and c) between b and c": op(api.XBetween, no(op(api.XBetween, a(), b(), c())), b(), c()),
	} {
		reads(t, s, want)
	}
}

func TestIs(t *testing.T) { // 19.1
	reads(t, "a IS NULL", op(api.XIsNull, a()))
	reads(t, "a is not null", no(op(api.XIsNull, a())))
	reads(t, "a + b is null and c", op(api.XAnd, op(api.XIsNull, op(api.XAdd, a(), b())), c()))
	reads(t, "null is null", op(api.XIsNull, null()))
	misread(t, "a is^", "a is ^1", "a is ^true", "a is not^", "a is not ^not null", "a is not ^1", "a is ^(null)", "a is ^= null", "^is null", "a is null ^null", "a is not null ^not", "a is ^in (b)")
}

func TestIn(t *testing.T) { // 19.1
	reads(t, "a IN (b)", op(api.XIn, a(), b()))
	reads(t, "a in (1, 'x', null)", op(api.XIn, a(), num(1), text("x"), null()))
	reads(t, "a not in (b, c)", no(op(api.XIn, a(), b(), c())))
	reads(t, "a in (b or c, not b, b = c, (b))", op(api.XIn, a(), op(api.XOr, b(), c()), op(api.XNot, b()), op(api.XEq, b(), c()), b()))
	reads(t, "a in (b in (c), b between 1 and 2)", op(api.XIn, a(), op(api.XIn, b(), c()), op(api.XBetween, b(), num(1), num(2))))
	reads(t, "a + 1 in (b) or c", op(api.XOr, op(api.XIn, op(api.XAdd, a(), num(1)), b()), c()))
	reads(t, "count(*) in (count(*))", op(api.XIn, star(), star()))
	misread(t, "a in^", "a in ^b", "a in (^)", "a in (b^", "a in (b,^", "a in (b,^)", "a in (^,b)", "a in (b ^c)", "a in (^*)", "a in ((b^, c))", "a in (b)^)", "a in ^1", "^in (a)", "a ^, b", "a not in^", "a not in ^b", "a not in (^)", "a in (b^;)", "a in ^not (b)", "a in (^select b)")
}

func TestBetween(t *testing.T) { // 19.1
	reads(t, "a BETWEEN b AND c", op(api.XBetween, a(), b(), c()))
	reads(t, "a not between - b and b + c", no(op(api.XBetween, a(), op(api.XNeg, b()), op(api.XAdd, b(), c()))))
	reads(t, "a between b and c and a", op(api.XAnd, op(api.XBetween, a(), b(), c()), a()))
	reads(t, "a and a between b and c", op(api.XAnd, a(), op(api.XBetween, a(), b(), c())))
	reads(t, "a between b and c or a", op(api.XOr, op(api.XBetween, a(), b(), c()), a()))
	reads(t, "a between b and c and a between b and c", op(api.XAnd, op(api.XBetween, a(), b(), c()), op(api.XBetween, a(), b(), c())))
	reads(t, "a between (b and c) and (b = c)", op(api.XBetween, a(), op(api.XAnd, b(), c()), op(api.XEq, b(), c())))
	reads(t, "a between (b between 1 and 2) and 3", op(api.XBetween, a(), op(api.XBetween, b(), num(1), num(2)), num(3)))
	misread(t, "a between^", "a between b^", "a between b ^or c", "a between b ^, c", "a between b and^", "a between ^and c", "a between ^not b and c", "a between b and ^not c", "a between b ^= c and d", "a between b and c ^= d", "a between b ^is null and c", "a between b ^between c and d", "a between b and c ^between 1 and 2", "(a between b^)", "a between b ^not", "^between a and b", "a not between b^", "a between b and ^and c", "a between b and c and^", "f(a between b^, c)")
}

func TestCalls(t *testing.T) { // 19.1
	for _, f := range []string{"length", "coalesce", "abs", "f", "_", "avg", "a"} {
		reads(t, f+"(a)", call(f, a()))
		reads(t, strings.ToUpper(f)+" --\n( a , b,c )", call(f, a(), b(), c()))
		reads(t, f+"("+f+"(a), 1 or 2)", call(f, call(f, a()), op(api.XOr, num(1), num(2))))
		reads(t, "a + "+f+"((a))*2", op(api.XAdd, a(), op(api.XMul, call(f, a()), num(2))))
		reads(t, f+"(a = b, a in (b), not a)", call(f, op(api.XEq, a(), b()), op(api.XIn, a(), b()), op(api.XNot, a())))
		misread(t, f+"(^)", f+"(^*)", f+"(a^", f+"(a,^", f+"(a,^)", f+"(^,a)", f+"(a ^b)", f+"(a)^(b)", f+"(a)^.b", f+"(a) ^b", f+"(^distinct a)", "t.g^(a)", f+"(a^;)", f+"(a)^)", f+"(a, ^*)")
	}
	misread(t, "length^", "coalesce ^+ 1", "length^.a", "length ^'a'", "abs ^length(a)", "length ^coalesce(a)")
}

func TestAggregates(t *testing.T) { // 19.1
	reads(t, "COUNT(*)", star())
	reads(t, "count ( * ) + 1", op(api.XAdd, star(), num(1)))
	for _, f := range []string{"count", "sum", "min", "max"} {
		reads(t, f+"(a)", agg(f, a()))
		reads(t, strings.ToUpper(f)+" (a or b)", agg(f, op(api.XOr, a(), b())))
		reads(t, f+"("+f+"(a))", agg(f, agg(f, a())))
		reads(t, f+"((a))", agg(f, a()))
		reads(t, f+"(a.b) = 1", op(api.XEq, agg(f, of("a", "b")), num(1)))
		misread(t, f+"^", f+"(^)", f+"(a^", f+"(a^, b)", f+"(a^,", f+"(^,a)", f+"(a ^b)", f+"(a)^(b)", f+" ^a", f+"^.a", f+"(^distinct a)", f+"(a *^)", f+"(a)^)", f+"(^;)", "- "+f+"^", "(^select "+f+"(a))")
		if f != "count" {
			misread(t, f+"(^*)", f+"( ^* )")
		}
	}
	misread(t, "count(*^", "count(*^, a)", "count(* ^a)", "count(*^*)", "count(* ^+ 1)", "count((^*))", "count(a^, *)", "count(-^*)", "count(*)^(*)")
}

func TestParentheses(t *testing.T) { // 19.1
	for _, s := range []string{"(a)", "((a))", "( ( ( a ) ) )", strings.Repeat("(", 24) + "a" + strings.Repeat(")", 24)} {
		reads(t, s, a())
	}
	reads(t, "(a + b) * c", op(api.XMul, op(api.XAdd, a(), b()), c()))
	reads(t, "a or (b or c)", op(api.XOr, a(), op(api.XOr, b(), c())))
	reads(t, "(a.b)", of("a", "b"))
	misread(t, "(^)", "^)", "(a^", "((a)^", "(a)^)", "(a^, b)", "(a)^.b", "(a)^(b)", "(a) ^b", "(^", "(^*)", "(a^;)", "(a ^b)", "(a.^)", "(^select a from t)")
}

func TestNothingBehindAnExpression(t *testing.T) { // 19.1
	misread(t, "^", " ^", "--x\n^", "a^;", "a ^,", "a^,b", "^;", "a^;b", "a ^as b", "a ^from t", "1 ^where 2", "a ^asc", "a = b ^group by c", "a ^then", "^select 1", "a ^)")
}

// TestLexFaultsFirst: what lex tells comes ahead of all that this layer would.
func TestLexFaultsFirst(t *testing.T) { // 19.2
	deep := strings.Repeat("(", 30)
	for _, s := range []string{"a b ", "", ") ", "= = ", deep, "begin begin ", "f( ", "a.", "select ", "x "} {
		for _, x := range []string{"!", "'", "1x", "|", "9223372036854775808", strings.Repeat("q", 33), "\x00", "\xFF"} {
			wrong(t, s+x, api.ErrSyntax, len(s))
			refused(t, s+x, api.ErrSyntax, len(s))
			wrong(t, s+x+" !", api.ErrSyntax, len(s))
		}
		long := s + strings.Repeat(" ", 4097-len(s))
		wrong(t, long, api.ErrLong, 0)
		refused(t, long, api.ErrLong, 0)
		wrong(t, "!"+long, api.ErrLong, 0)
		refused(t, "!"+long, api.ErrLong, 0)
	}
}

func TestLongTexts(t *testing.T) { // 19.1, 19.2, 19.5
	fill := func(s string) string { return s + strings.Repeat(" ", 4096-len(s)) }
	reads(t, fill("a"), a())
	states(t, fill("begin"), api.Stmt{Kind: api.SBegin})
	wrong(t, fill("a b"), api.ErrSyntax, 2)
	wrong(t, fill(""), api.ErrSyntax, 4096)
	refused(t, fill(""), api.ErrSyntax, 4096)
	refused(t, fill("drop table"), api.ErrSyntax, 4096)
	for _, x := range signs() {
		if x.strength == 4 {
			continue
		}
		s, want := "1", num(1)
		for len(s)+len(x.text)+3 <= 4095 {
			s, want = s+" "+x.text+" 1", op(x.op, want, num(1))
		}
		reads(t, s, want)
		wrong(t, s+"x", api.ErrSyntax, len(s)-1)
	}
	l := make([]api.Expr, 2046)
	for i := range l {
		l[i] = num(1)
	}
	reads(t, "f("+strings.Repeat(",1", len(l))[1:]+")", call("f", l...))
}
