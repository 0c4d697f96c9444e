package bind_test

import (
	"fmt"
	"math"
	"reflect"
	"strings"
	"testing"

	"palimpsest/api"
	"palimpsest/bind"
	"palimpsest/parse"
)

func num(n int) api.Expr {
	return api.Expr{Op: api.XLit, V: api.Value{Type: api.TInt, Int: n}}
}
func text(s string) api.Expr {
	return api.Expr{Op: api.XLit, V: api.Value{Type: api.TText, Text: s}}
}
func truth(is bool) api.Expr {
	return api.Expr{Op: api.XLit, V: api.Value{Type: api.TBool, Bool: is}}
}
func null() api.Expr                      { return api.Expr{Op: api.XLit} }
func name(s string) api.Expr              { return api.Expr{Op: api.XName, Name: s} }
func of(t, s string) api.Expr             { return api.Expr{Op: api.XName, Table: t, Name: s} }
func col(t, c int) api.Expr               { return api.Expr{Op: api.XCol, T: t, C: c} }
func op(n int, kids ...api.Expr) api.Expr { return api.Expr{Op: n, Kids: kids} }
func agg(s string, kids ...api.Expr) api.Expr {
	return api.Expr{Op: api.XAgg, Name: s, Kids: kids}
}
func star() api.Expr                           { return api.Expr{Op: api.XAgg, Name: "count", Star: true} }
func call(s string, kids ...api.Expr) api.Expr { return api.Expr{Op: api.XCall, Name: s, Kids: kids} }

// within puts an expression into an aggregate that fits each type.
func within(e api.Expr) api.Expr { return agg("count", e) }

// table makes a table of columns, each told by its name and the letter of its type: i, t, b, or n of none.
func table(name string, cols ...string) api.Table {
	t := api.Table{Name: name}
	for _, c := range cols {
		kind := map[byte]int{'i': api.TInt, 't': api.TText, 'b': api.TBool, 'n': api.TNull}[c[len(c)-1]]
		t.Cols = append(t.Cols, api.Col{Name: c[:len(c)-2], Type: kind})
	}
	return t
}

// index gives a table one more index, over its first column.
func index(t api.Table, name string) api.Table {
	t.Indexes = append(t.Indexes, api.Index{Name: name})
	return t
}

// t and u are called x and y in the expressions.
func tables() []api.Table {
	return []api.Table{index(table("t", "a i", "b t", "c b"), "k"), index(table("u", "a i", "d b", "e t"), "l")}
}

func read(t testing.TB, s string) api.Expr {
	t.Helper()
	e, err, at := parse.Expr(s)
	if err != api.OK {
		t.Fatalf("%q is no expression: %d at %d", s, err, at)
	}
	return e
}

// brief spells a value without what is zero in it, nor what lies too deep or too far.
func brief(x any) string {
	s := plain(reflect.ValueOf(x), 30)
	if len(s) > 900 {
		s = s[:900] + " .."
	}
	return s
}

func plain(v reflect.Value, deep int) string {
	var l []string
	if deep == 0 {
		return ".."
	}
	switch v.Kind() {
	case reflect.Struct:
		for i := range v.NumField() {
			if f := v.Field(i); !f.IsZero() {
				l = append(l, v.Type().Field(i).Name+" "+plain(f, deep-1))
			}
		}
		return "{" + strings.Join(l, ", ") + "}"
	case reflect.Slice:
		for i := range min(v.Len(), 100) {
			l = append(l, plain(v.Index(i), deep-1))
		}
		return "[" + strings.Join(l, ", ") + "]"
	}
	return fmt.Sprintf("%#v", v)
}

// binds wants an expression to be bound to x and y as that one, of that type.
func binds(t *testing.T, e, want api.Expr, kind int) {
	t.Helper()
	x, k, err := bind.Expr(e, tables(), []string{"x", "y"}, true)
	if err != api.OK || k != kind || !reflect.DeepEqual(x, want) {
		t.Errorf("Expr(%s) = %s, %d, %d; want %s, %d", brief(e), brief(x), k, err, brief(want), kind)
	}
}

// kinds wants expressions to be of a type.
func kinds(t *testing.T, kind int, l ...string) {
	t.Helper()
	for _, s := range l {
		x, k, err := bind.Expr(read(t, s), tables(), []string{"x", "y"}, true)
		if err != api.OK || k != kind || x.Op == 0 {
			t.Errorf("Expr(%q) = %s, %d, %d; want type %d", s, brief(x), k, err, kind)
		}
	}
}

// refuses wants an expression to be wrong for that reason.
func refuses(t *testing.T, e api.Expr, aggs bool, reason api.Errno) {
	t.Helper()
	x, k, err := bind.Expr(e, tables(), []string{"x", "y"}, aggs)
	if err != reason || k != 0 || !reflect.DeepEqual(x, api.Expr{}) {
		t.Errorf("Expr(%s, %t) = %s, %d, %d; want nothing, %d", brief(e), aggs, brief(x), k, err, reason)
	}
}

func wrong(t *testing.T, reason api.Errno, l ...string) {
	t.Helper()
	for _, s := range l {
		refuses(t, read(t, s), true, reason)
	}
}

func TestExamples(t *testing.T) { // 20.1, 20.2
	l := []api.Table{table("t", "a i", "b t")}
	for s, reason := range map[string]api.Errno{
		"SELECT a || b FROM t":             api.ErrType,
		"SELECT a FROM t GROUP BY b":       api.ErrAgg,
		"SELECT t.a FROM t JOIN t ON TRUE": api.ErrName,
	} {
		s, _, _ := parse.Statement(s)
		if x, err := bind.Statement(s, l); err != reason || !reflect.DeepEqual(x, api.Stmt{}) {
			t.Errorf("%s is %s, %d, want %d", brief(s), brief(x), err, reason)
		}
	}
	s, _, _ := parse.Statement("SELECT a + 1 FROM t")
	x, err := bind.Statement(s, l)
	if err != api.OK || len(x.Items) != 1 || !reflect.DeepEqual(x.Items[0].E, op(api.XAdd, col(0, 0), num(1))) {
		t.Errorf("%s, %d", brief(x), err)
	}
}

func TestNames(t *testing.T) { // 20.1
	binds(t, name("b"), col(0, 1), api.TText)
	binds(t, name("d"), col(1, 1), api.TBool)
	binds(t, of("x", "a"), col(0, 0), api.TInt)
	binds(t, of("y", "a"), col(1, 0), api.TInt)
	binds(t, of("y", "e"), col(1, 2), api.TText)
	binds(t, op(api.XAdd, of("y", "a"), of("x", "a")), op(api.XAdd, col(1, 0), col(0, 0)), api.TInt)
	binds(t, op(api.XIn, name("b"), name("e"), text("b")), op(api.XIn, col(0, 1), col(1, 2), text("b")), api.TBool)
	for _, e := range []api.Expr{name("a"), name("z"), name(""), name("B"), name("k"), name("x"), name("t"), of("t", "a"), of("u", "d"), of("X", "a"), of("x", "d"), of("y", "b"), of("y", "z"), of("z", "a"), of("z", "b"), of("x", "")} {
		refuses(t, e, true, api.ErrName)
		refuses(t, e, false, api.ErrName)
	}
}

// TestNamesOnce: each column of a name counts, also two of one table, and of two tables that are called alike.
func TestNamesOnce(t *testing.T) { // 20.1
	two := table("t", "a i", "b t", "a t")
	for _, x := range []struct {
		e     api.Expr
		from  []api.Table
		names []string
		want  api.Expr
		kind  int
	}{
		{e: name("a"), from: []api.Table{two}, names: []string{"t"}},
		{e: of("t", "a"), from: []api.Table{two}, names: []string{"t"}},
		{name("b"), []api.Table{two}, []string{"t"}, col(0, 1), api.TText},
		{e: of("t", "b"), from: []api.Table{two, two}, names: []string{"t", "t"}},
		{of("u", "b"), []api.Table{two, two}, []string{"t", "u"}, col(1, 1), api.TText},
		{of("t", "c"), []api.Table{two, table("u", "c b")}, []string{"t", "t"}, col(1, 0), api.TBool},
		{of("", "c"), []api.Table{two, table("u", "c b")}, []string{"", "t"}, col(1, 0), api.TBool},
		{name(""), []api.Table{table("t", "a i", " b")}, []string{"t"}, col(0, 1), api.TBool},
		{name("n"), []api.Table{table("t"), table("t", "n n")}, []string{"t", "u"}, col(1, 0), 0},
		{e: name("a")},
		{e: name("a"), from: []api.Table{table("t")}, names: []string{"t"}},
	} {
		reason := api.OK
		if x.want.Op == 0 {
			reason = api.ErrName
		}
		e, kind, err := bind.Expr(x.e, x.from, x.names, false)
		if err != reason || kind != x.kind || !reflect.DeepEqual(e, x.want) {
			t.Errorf("Expr(%s, %s, %q) = %s, %d, %d", brief(x.e), brief(x.from), x.names, brief(e), kind, err)
		}
	}
}

func TestAsManyNames(t *testing.T) { // 20.1
	for n := range 4 {
		names := []string{"x", "y", "z"}[:n]
		for _, e := range []api.Expr{null(), name("b"), name("zz"), {Op: 99}, agg("sum", text("x"))} {
			if x, kind, err := bind.Expr(e, tables(), names, false); n != 2 && (err != api.ErrArg || kind != 0 || x.Op != 0) {
				t.Errorf("%d names: %s, %d, %d", n, brief(x), kind, err)
			}
		}
	}
	if x, kind, err := bind.Expr(num(1), nil, []string{}, false); err != api.OK || kind != api.TInt || !reflect.DeepEqual(x, num(1)) {
		t.Error(brief(x), kind, err)
	}
	if _, _, err := bind.Expr(num(1), nil, []string{"x"}, false); err != api.ErrArg {
		t.Error(err)
	}
}

func TestLiterals(t *testing.T) { // 20.1
	binds(t, null(), null(), 0)
	for _, n := range []int{0, -1, 7, math.MinInt, math.MaxInt} {
		binds(t, num(n), num(n), api.TInt)
	}
	for _, s := range []string{"", "x", "a", "it's", "\x00\xFF"} {
		binds(t, text(s), text(s), api.TText)
	}
	binds(t, truth(true), truth(true), api.TBool)
	binds(t, truth(false), truth(false), api.TBool)
	for _, kind := range []int{-1, 4, 9, math.MinInt, math.MaxInt} {
		refuses(t, api.Expr{Op: api.XLit, V: api.Value{Type: kind}}, true, api.ErrArg)
	}
}

func TestTypes(t *testing.T) { // 20.1
	kinds(t, 0, "null", "coalesce(null)", "coalesce(null, null, null)", "min(null)", "max(coalesce(null))")
	kinds(t, api.TInt, "1", "x.a", "x.a + y.a", "1 - null", "null * 1", "null / null", "x.a % 2", "- null", "- - x.a", "length(b)", "length(null)", "length(b || null)", "abs(- 1)", "abs(null)", "coalesce(1)", "coalesce(null, 1)", "coalesce(1, null, x.a)", "count(*)", "count(null)", "count(b)", "count(c and d)", "sum(x.a)", "sum(null)", "min(1)", "max(x.a + 1)", "count(*) + sum(1) * 2")
	kinds(t, api.TText, "'x'", "b || e", "null || null", "b || null", "coalesce(null, b, 'x')", "min(b)", "max(b || e)", "coalesce(max(b), null)")
	kinds(t, api.TBool, "true", "c and d", "c or null", "null and null", "not null", "not c", "null = null", "1 = null", "null <> b", "b < e", "c <= d", "x.a > y.a", "x.a >= null", "b is null", "null is null", "1 + 1 is not null", "c is null", "x.a in (1, null, y.a)", "null in (null)", "null in (null, 1)", "b in (e)", "c not in (true, false)", "x.a between 1 and 2", "null between null and b", "b not between null and 'x'", "min(c)", "(1 = 1) = c", "count(*) = 1", "max(d) and c")
}

// TestWrongTypes: each place of each form is asked for its type.
func TestWrongTypes(t *testing.T) { // 20.1
	const i, s, b = "x.a", "e", "d"
	for _, sign := range []string{"+", "-", "*", "/", "%"} {
		for _, x := range []string{s, b} {
			wrong(t, api.ErrType, i+sign+x, x+sign+i, x+sign+x, x+sign+"null", "null"+sign+x)
		}
	}
	for _, x := range []string{i, b} {
		wrong(t, api.ErrType, s+"||"+x, x+"||"+s, x+"||"+x, x+"|| null", "null || "+x, "length("+x+")")
	}
	for _, x := range []string{i, s} {
		wrong(t, api.ErrType, b+" and "+x, x+" or "+b, x+" or null", "null and "+x, "not "+x)
	}
	for _, x := range []string{b, s} {
		wrong(t, api.ErrType, "- "+x, "abs("+x+")", "sum("+x+")")
	}
	for _, sign := range []string{"=", "<>", "<", "<=", ">", ">="} {
		for _, x := range []string{i + sign + s, s + sign + b, b + sign + i} {
			wrong(t, api.ErrType, x)
		}
	}
	wrong(t, api.ErrType, "1 in ('x')", "1 in (1, 'x')", "null in (1, 'x')", "null in (1, null, true)", "b in (null, 1)", "1 between 1 and 'x'", "1 between 'x' and 1", "'x' between 1 and 1", "null between 1 and 'x'", "1 between null and c",
		"coalesce(1, 'x')", "coalesce(null, 1, null, c)", "coalesce(b, e, 1)", "(1 = 1) = 1", "count(*) || b", "min(b) + 1", "length(b) || b", "(b is null) + 1")
}

func TestCalls(t *testing.T) { // 20.1
	wrong(t, api.ErrName, "foo(1)", "foo(null)", "foo(b, c)", "lengths(b)", "count_(b)", "ab(1)")
	wrong(t, api.ErrType, "length(b, b)", "length(null, null)", "abs(1, 1)", "abs(1, 1, 1)", "abs(null, null)", "length(1, b)")
	for _, s := range []string{"", "LENGTH", "Abs", "count", "sum", "min"} {
		refuses(t, call(s, null()), true, api.ErrName)
	}
	binds(t, call("coalesce", null(), name("b"), text("")), call("coalesce", null(), col(0, 1), text("")), api.TText)
}

func TestAggregates(t *testing.T) { // 20.1
	binds(t, star(), star(), api.TInt)
	binds(t, agg("count", name("b")), agg("count", col(0, 1)), api.TInt)
	binds(t, agg("sum", of("y", "a")), agg("sum", col(1, 0)), api.TInt)
	binds(t, op(api.XAdd, star(), agg("min", num(1))), op(api.XAdd, star(), agg("min", num(1))), api.TInt)
	for _, e := range []api.Expr{star(), agg("count", num(1)), agg("sum", text("x")), agg("min", null()), op(api.XAdd, num(1), star()), op(api.XNot, star()), call("foo", agg("max", null()))} {
		refuses(t, e, false, api.ErrAgg)
	}
	wrong(t, api.ErrAgg, "sum(count(*))", "count(count(*))", "min(1 + max(1))", "count(coalesce(null, 1, sum(null)))", "1 + sum(abs(- sum(1)))", "count(b in (max(b)))", "sum(1) + sum(sum(1))", "min(sum(1) + z)", "sum(sum('x'))", "min(min(b) + 1)")
	// what lies in the inner one, and what stands ahead, comes first
	wrong(t, api.ErrName, "min(sum(z))", "min(z + sum(1))", "z + min(min(1))", "min(foo(1) + sum(1))")
	wrong(t, api.ErrType, "min(sum(1 + b))", "min('x' + 1 + sum(1))", "sum(b)")
	refuses(t, agg("sum", name("z")), false, api.ErrName)
	refuses(t, agg("sum", op(api.XNot, num(1))), false, api.ErrType)
	refuses(t, agg("avg", num(1)), false, api.ErrArg)
	refuses(t, agg("avg", star()), true, api.ErrAgg)
	refuses(t, within(agg("avg", num(1))), true, api.ErrArg)
}

// TestFirstFault: leaves first, from the left, then what they lie in.
func TestFirstFault(t *testing.T) { // 20.1
	wrong(t, api.ErrName, "z + sum(sum(1))", "b + z", "z + b", "'x' + z = 1", "not z", "foo(1 + 1) || 1", "1 = foo(2) + 'x'", "z in ('x' + 1)", "1 in (z, 'x' + 1)", "abs(1, z)", "coalesce(1, 'x', z)", "min(z) = 'x' + 1")
	wrong(t, api.ErrType, "foo('x' + 1)", "('x' + 1) + z", "1 in ('x' + 1, z)", "1 between (not 1) and foo(1)", "coalesce(abs(1, 1), z)", "sum('x') + min(min(1))")
	wrong(t, api.ErrAgg, "min(min(1)) + z", "min(min(1)) || ('x' + 1)")
	refuses(t, op(api.XAdd, op(0), name("z")), true, api.ErrArg)
	refuses(t, op(api.XAdd, name("z"), op(0)), true, api.ErrName)
	refuses(t, op(api.XAdd, text("x"), op(0)), true, api.ErrArg)
	refuses(t, op(api.XAdd, text("x"), num(1)), true, api.ErrType)
}

// TestNoForm: what can't be read can't be bound, and that is told ahead of all else of it, but behind its kids' faults.
func TestNoForm(t *testing.T) { // 20.1
	l := []api.Expr{
		{}, {Op: -1}, {Op: api.XNeg + 1}, {Op: 99}, {Op: math.MaxInt}, {Op: math.MinInt}, col(0, 0), col(1, 2), col(-1, 9),
		agg("avg", num(1)), agg("", num(1)), agg("COUNT", num(1)), agg("length", text("")), {Op: api.XAgg, Name: "sum", Star: true}, {Op: api.XAgg, Name: "min", Star: true}, {Op: api.XAgg, Name: "avg", Star: true}, {Op: api.XAgg, Star: true},
		{Op: api.XAgg, Name: "count", Star: true, Kids: []api.Expr{num(1)}}, {Op: api.XAgg, Name: "sum", Star: true, Kids: []api.Expr{num(1)}}, agg("count"), agg("sum"), agg("min", num(1), num(1)), agg("count", null(), null()),
		call("foo"), call("length"), call("abs"), call("coalesce"), call(""),
		{Op: api.XName, Name: "b", Kids: []api.Expr{null()}}, {Op: api.XName, Name: "zz", Kids: []api.Expr{null()}}, {Op: api.XLit, Kids: []api.Expr{null()}}, {Op: api.XLit, V: api.Value{Type: 9}, Kids: []api.Expr{null()}}, {Op: api.XCol, Kids: []api.Expr{null()}}, {Op: 99, Kids: []api.Expr{null()}},
	}
	counts := map[int][]int{api.XOr: {2}, api.XAnd: {2}, api.XNot: {1}, api.XEq: {2}, api.XNe: {2}, api.XLt: {2}, api.XLe: {2}, api.XGt: {2}, api.XGe: {2}, api.XIsNull: {1}, api.XIn: {2, 3, 4, 5}, api.XBetween: {3}, api.XAdd: {2}, api.XSub: {2}, api.XMul: {2}, api.XDiv: {2}, api.XMod: {2}, api.XCat: {2}, api.XNeg: {1}}
	if len(counts) != api.XNeg-api.XOr+1 {
		t.Fatal("a form is missing")
	}
	for o, right := range counts {
		for n := range 6 {
			e := op(o)
			for range n {
				e.Kids = append(e.Kids, null())
			}
			fits := false
			for _, r := range right {
				fits = fits || r == n
			}
			if _, _, err := bind.Expr(e, nil, nil, true); fits != (err == api.OK) {
				t.Errorf("%d with %d kids is %d", o, n, err)
			}
			if !fits {
				l = append(l, e)
			}
		}
	}
	for _, e := range l {
		for _, aggs := range []bool{false, true} {
			refuses(t, e, aggs, api.ErrArg)
		}
		refuses(t, op(api.XNot, e), true, api.ErrArg)
		refuses(t, within(e), false, api.ErrArg)
		if len(e.Kids) == 0 {
			continue
		}
		for _, x := range []struct {
			e      api.Expr
			reason api.Errno
		}{{name("zz"), api.ErrName}, {op(api.XNot, num(1)), api.ErrType}, {within(star()), api.ErrAgg}} {
			e.Kids = append([]api.Expr{}, e.Kids...)
			e.Kids[len(e.Kids)-1] = x.e
			refuses(t, e, true, x.reason)
		}
	}
}

// TestKept: of a name nothing is left but its place; of all other forms all that they had.
func TestKept(t *testing.T) { // 20.1, DOC's rule 7
	binds(t, api.Expr{Op: api.XName, Table: "x", Name: "a", T: 5, C: 6, Not: true, Star: true, V: api.Value{Text: "x"}}, col(0, 0), api.TInt)
	for _, s := range []string{"b is not null", "b not in ('x', null)", "b not between 'x' and 'y'", "b is null", "b in ('x', null)", "b between 'x' and 'y'"} {
		e := read(t, s)
		want := e
		want.Kids = append([]api.Expr{col(0, 1)}, e.Kids[1:]...)
		binds(t, e, want, api.TBool)
	}
}

func TestSame(t *testing.T) { // 20.3
	full := func() api.Expr {
		return api.Expr{Op: 1, V: api.Value{Type: 1, Int: 1, Text: "x", Bool: true}, Table: "t", Name: "n", T: 1, C: 1, Not: true, Star: true, Kids: []api.Expr{num(1), op(api.XNot, name("a"))}}
	}
	changes := []func(e *api.Expr){
		func(e *api.Expr) { e.Op = 2 }, func(e *api.Expr) { e.Op = 0 },
		func(e *api.Expr) { e.V.Type = 0 }, func(e *api.Expr) { e.V.Int = 2 }, func(e *api.Expr) { e.V.Text = "" }, func(e *api.Expr) { e.V.Bool = false },
		func(e *api.Expr) { e.Table = "T" }, func(e *api.Expr) { e.Name = "" }, func(e *api.Expr) { e.T = 0 }, func(e *api.Expr) { e.C = -1 },
		func(e *api.Expr) { e.Not = false }, func(e *api.Expr) { e.Star = false },
		func(e *api.Expr) { e.Kids = nil }, func(e *api.Expr) { e.Kids = e.Kids[:1] }, func(e *api.Expr) { e.Kids = append(e.Kids, null()) },
		func(e *api.Expr) { e.Kids[0], e.Kids[1] = e.Kids[1], e.Kids[0] }, func(e *api.Expr) { e.Kids[0].V.Int = 0 }, func(e *api.Expr) { e.Kids[1].Not = true }, func(e *api.Expr) { e.Kids[1].Kids = []api.Expr{} }, func(e *api.Expr) { e.Kids[1].Kids[0].Name = "b" },
		func(e *api.Expr) { *e = api.Expr{} },
	}
	l := []api.Expr{full()}
	for _, change := range changes {
		e := full()
		change(&e)
		l = append(l, e)
	}
	for i, a := range l {
		for j, b := range l {
			if bind.Same(a, b) != (i == j) {
				t.Errorf("Same(%s, %s) is %t", brief(a), brief(b), i != j)
			}
			if bind.Same(op(api.XNeg, null(), a), op(api.XNeg, null(), b)) != (i == j) {
				t.Errorf("within: Same(%s, %s) is %t", brief(a), brief(b), i != j)
			}
		}
		if !bind.Same(a, api.Expr(l[i])) || !bind.Same(full(), full()) {
			t.Error(brief(a))
		}
	}
	a, b := full(), full()
	a.Kids[0].Kids, b.Kids[0].Kids = nil, []api.Expr{} // DOC's rule 1
	if !bind.Same(a, b) || !bind.Same(api.Expr{}, api.Expr{Kids: []api.Expr{}}) {
		t.Error("no kids are no kids")
	}
}

func TestColumns(t *testing.T) { // 20.3
	item := func(name string, e api.Expr) api.Item { return api.Item{Name: name, E: e} }
	columns := func(kind int, l ...api.Item) []string {
		return bind.Columns(api.Stmt{Kind: kind, Items: l}, tables())
	}
	if l := columns(api.SSelect, item("a", col(0, 0)), api.Item{E: num(1), As: "n", Name: "n"}, item("?", num(1)), item("a", col(1, 0))); !reflect.DeepEqual(l, []string{"a", "n", "?", "a"}) {
		t.Errorf("%q", l)
	}
	if l := columns(api.SSelect, item("", col(0, 0))); !reflect.DeepEqual(l, []string{""}) {
		t.Errorf("%q", l)
	}
	if l := columns(api.SSelect); len(l) != 0 {
		t.Errorf("%q", l)
	}
	for kind := -1; kind <= api.SRelease+1; kind++ {
		if l := columns(kind, item("a", col(0, 0))); kind != api.SSelect && len(l) != 0 {
			t.Errorf("of %d: %q", kind, l)
		}
	}
	if l := columns(api.SSelect, item("a", col(0, 0)), api.Item{Star: true, Name: "b", E: col(0, 1)}); len(l) != 0 { // a star is not bound
		t.Errorf("%q", l)
	}
	for _, s := range []string{"select * from t", "select a from t", "select 1 from t", "select count(*), a as b from t", "select a as b from t"} { // not bound
		s, _, _ := parse.Statement(s)
		if l := bind.Columns(s, tables()); len(l) != 0 {
			t.Errorf("of %s: %q", brief(s), l)
		}
	}
}
