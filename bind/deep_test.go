package bind_test

import (
	"slices"
	"strings"
	"testing"

	"palimpsest/api"
	"palimpsest/bind"
	"palimpsest/parse"
)

const deep = 300_000

// nest puts an expression into so many forms, made by turns.
func nest(e api.Expr, n int, forms ...func(e api.Expr) api.Expr) api.Expr {
	for i := range n {
		e = forms[i%len(forms)](e)
	}
	return e
}

func nots(e api.Expr) api.Expr {
	return nest(e, deep, func(e api.Expr) api.Expr { return op(api.XNot, e) })
}

// bottom tells what lies innermost, and in how many forms.
func bottom(e api.Expr) (api.Expr, int) {
	n := 0
	for len(e.Kids) > 0 {
		e = e.Kids[0]
		n++
	}
	return e, n
}

// TestDeepTrees: no depth of an expression is too much.
func TestDeepTrees(t *testing.T) { // 20.5
	for _, x := range []struct {
		in, out api.Expr
		kind    int
		err     api.Errno
	}{{name("c"), col(0, 2), api.TBool, api.OK}, {name("zz"), api.Expr{}, 0, api.ErrName}, {num(1), api.Expr{}, 0, api.ErrType}, {api.Expr{}, api.Expr{}, 0, api.ErrArg}, {star(), api.Expr{}, 0, api.ErrAgg}} {
		e, kind, err := bind.Expr(nots(x.in), tables(), []string{"x", "y"}, false)
		low, n := bottom(e)
		if err != x.err || kind != x.kind || err == api.OK && n != deep || !bind.Same(low, x.out) {
			t.Errorf("%s is bound as %s, %d deep, %d, %d", brief(x.in), brief(low), n, kind, err)
		}
	}
	forms := []func(e api.Expr) api.Expr{
		func(e api.Expr) api.Expr { return op(api.XNeg, e) },
		func(e api.Expr) api.Expr { return op(api.XAdd, num(1), e) },
		func(e api.Expr) api.Expr { return call("coalesce", null(), e, num(2)) },
		func(e api.Expr) api.Expr { return call("abs", e) },
		func(e api.Expr) api.Expr { return op(api.XMul, e, null()) },
	}
	if _, kind, err := bind.Expr(agg("sum", nest(of("y", "a"), deep, forms...)), tables(), []string{"x", "y"}, true); err != api.OK || kind != api.TInt {
		t.Error(kind, err)
	}
}

func TestDeepSame(t *testing.T) { // 20.3, 20.5
	a, b, c := nots(name("a")), nots(name("a")), nots(name("b"))
	if !bind.Same(a, b) || bind.Same(a, c) || bind.Same(a, a.Kids[0]) {
		t.Error("deep ones are told apart in another way")
	}
}

func TestDeepStatements(t *testing.T) { // 20.2, 20.5
	e := nots(name("c"))
	s := stated(t, "select distinct 1 as x from t join u on true where true group by c having true order by x, 1")
	s.Items[0].E, s.From[1].On, s.Where, s.Having, s.Order[1].E = e, e, e, e, e
	x, err := bind.Statement(s, tables())
	if err != api.OK {
		t.Fatal(err)
	}
	for _, e := range []api.Expr{x.Items[0].E, x.From[1].On, x.Where, x.Having, x.Order[0].E, x.Order[1].E} {
		if low, n := bottom(e); n != deep || !bind.Same(low, col(0, 2)) {
			t.Error(n)
		}
	}
	s.Group = []api.Expr{of("t", "b")}
	failing(t, api.ErrAgg, s, tables())
	for _, kind := range []int{api.SBegin, api.SDrop} {
		x, err := bind.Statement(api.Stmt{Kind: kind, Table: "t", Where: e, Sets: []api.Expr{e}, Rows: [][]api.Expr{{e}}}, tables())
		if err != api.OK || !bind.Same(x.Where, e) || !bind.Same(x.Sets[0], e) || !bind.Same(x.Rows[0][0], e) {
			t.Error(kind, err)
		}
	}
	failing(t, api.ErrName, api.Stmt{Kind: api.SInsert, Table: "t", Columns: []string{"c"}, Rows: [][]api.Expr{{e}}}, tables())
	x, err = bind.Statement(api.Stmt{Kind: api.SUpdate, Table: "t", Columns: []string{"c"}, Sets: []api.Expr{e}}, tables())
	if low, n := bottom(x.Sets[0]); err != api.OK || n != deep || !bind.Same(low, col(0, 2)) {
		t.Error(n, err)
	}
}

// TestWide: forms of many kids, and statements of many parts.
func TestWide(t *testing.T) { // 20.5
	e := op(api.XIn, slices.Repeat([]api.Expr{name("d")}, deep)...)
	if x, kind, err := bind.Expr(e, tables(), []string{"x", "y"}, false); err != api.OK || kind != api.TBool || len(x.Kids) != deep || !bind.Same(x.Kids[deep-1], col(1, 1)) {
		t.Error(kind, err)
	}
	e.Kids = append(e.Kids, num(1))
	refuses(t, e, false, api.ErrType)
	long := "select distinct " + strings.Repeat("1+", 900) + "1 as x from t order by x" + strings.Repeat(",x", 900)
	x, err := bind.Statement(stated(t, long), tables())
	if err != api.OK || len(x.Order) != 901 {
		t.Fatal(err)
	}
	for _, o := range x.Order {
		if !bind.Same(o.E, x.Items[0].E) {
			t.Fatal("an As stands for another expression")
		}
	}
	works(t, "select "+strings.Repeat("a, ", 1300)+"a from t group by b, c, a", "insert into t (a) values (1)"+strings.Repeat(",(1)", 900))
	fails(t, api.ErrAgg, "select "+strings.Repeat("a, ", 1300)+"b from t group by c, a")
}

// TestHostileTexts: whatever can be read is answered.
func TestHostileTexts(t *testing.T) { // W12, 20.5
	words := strings.Fields("select distinct * from t u as x join on true where group by having order limit 1 a b c 'x' null count sum ( ) , + || = and not in is between insert into values update set delete create table drop index int begin . ;")
	m := maker{newRand(41)}
	starts := []string{"select a from t ", "select * from t ", "select a , b from t group by ", "insert into t values ( 1 , 'x' , ", "update t set a = ", "delete from t where ", "select count ( * ) from ", "select a as x from t order by ", ""}
	read := 0
	for range 300000 {
		s := one(m, starts...)
		for range m.Intn(7) {
			s += one(m, words...) + " "
		}
		x, err, _ := parse.Statement(s)
		if err != api.OK {
			continue
		}
		read++
		y, err := bind.Statement(x, tables())
		switch {
		case err == api.OK && y.Kind == x.Kind:
		case err != api.ErrName && err != api.ErrType && err != api.ErrAgg || y.Kind != 0:
			t.Fatalf("%q: %s, %d", s, brief(y), err)
		}
	}
	if read < 2000 {
		t.Error(read)
	}
}
