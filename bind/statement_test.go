package bind_test

import (
	"math"
	"reflect"
	"slices"
	"strings"
	"testing"

	"palimpsest/api"
	"palimpsest/bind"
	"palimpsest/parse"
)

func stated(t testing.TB, s string) api.Stmt {
	t.Helper()
	x, err, at := parse.Statement(s)
	if err != api.OK {
		t.Fatalf("%q is no statement: %d at %d", s, err, at)
	}
	return x
}

// becomes wants a statement to be bound to t and u as what change makes of it.
func becomes(t *testing.T, s string, change func(x *api.Stmt)) {
	t.Helper()
	gives(t, stated(t, s), change)
}

func gives(t *testing.T, s api.Stmt, change func(x *api.Stmt)) {
	t.Helper()
	want := s
	change(&want)
	x, err := bind.Statement(s, tables())
	if err != api.OK || !reflect.DeepEqual(x, want) {
		t.Errorf("Statement(%s) = %s, %d; want %s", brief(s), brief(x), err, brief(want))
	}
}

func asIs(*api.Stmt) {}

// fails wants statements to be wrong over t and u for that reason.
func fails(t *testing.T, reason api.Errno, l ...string) {
	t.Helper()
	for _, s := range l {
		failing(t, reason, stated(t, s), tables())
	}
}

func failing(t *testing.T, reason api.Errno, s api.Stmt, l []api.Table) {
	t.Helper()
	x, err := bind.Statement(s, l)
	if err != reason || !reflect.DeepEqual(x, api.Stmt{}) {
		t.Errorf("Statement(%s) = %s, %d; want nothing, %d", brief(s), brief(x), err, reason)
	}
}

func works(t *testing.T, l ...string) {
	t.Helper()
	for _, s := range l {
		if x, err := bind.Statement(stated(t, s), tables()); err != api.OK || x.Kind == 0 {
			t.Errorf("%q: %s, %d", s, brief(x), err)
		}
	}
}

func TestCreate(t *testing.T) { // 20.2
	becomes(t, "create table v (a int, b text not null, c bool primary key)", asIs)
	becomes(t, "create table v (a int, b int, c int, d int, e int, f int, g int, h int)", asIs)
	becomes(t, "create table k (t int)", asIs)
	fails(t, api.ErrName, "create table t (a int)", "create table u (z int)", "create table v (a int, b int, a int)", "create table v (a int, a text)", "create table v (a int, b int, c int, d int, e int, f int, g int, h int, i int)")
	for _, s := range []api.Stmt{{Kind: api.SCreate, Table: "v"}, {Kind: api.SCreate}, {Kind: api.SCreate, Table: "t"}} {
		failing(t, api.ErrName, s, tables())
	}
	gives(t, api.Stmt{Kind: api.SCreate, Cols: []api.Col{{Type: 9}}}, asIs)
	var l []api.Table
	s := stated(t, "create table v (a int)")
	for range api.MaxTables {
		if x, err := bind.Statement(s, l); err != api.OK || !reflect.DeepEqual(x, s) {
			t.Errorf("%d tables: %d", len(l), err)
		}
		l = append(l, api.Table{})
	}
	failing(t, api.ErrName, s, l)
	failing(t, api.ErrName, s, append(l, l...))
}

func TestDrop(t *testing.T) { // 20.2
	becomes(t, "drop table t", asIs)
	becomes(t, "drop table u", asIs)
	fails(t, api.ErrName, "drop table v", "drop table k", "drop table a")
	failing(t, api.ErrName, api.Stmt{Kind: api.SDrop}, tables())
	failing(t, api.ErrName, stated(t, "drop table t"), nil)
}

func TestIndex(t *testing.T) { // 20.2
	becomes(t, "create index j on t (b)", asIs)
	becomes(t, "create unique index t on u (e)", asIs)
	fails(t, api.ErrName, "create index k on t (a)", "create index k on u (a)", "create index l on t (a)", "create index j on v (a)", "create index j on t (z)", "create index j on u (b)", "create index j on k (a)")
	l := []api.Table{table("v", "a i"), table("t", "a i", "b t")}
	s := stated(t, "create index j on t (b)")
	for i := range api.MaxIndexes {
		if x, err := bind.Statement(s, l); err != api.OK || !reflect.DeepEqual(x, s) {
			t.Errorf("%d indexes: %d", i, err)
		}
		l[1] = index(l[1], strings.Repeat("i", i+1))
	}
	failing(t, api.ErrName, s, l)
	l[1], l[0] = table("t", "b i"), l[1]
	failing(t, api.ErrName, s, []api.Table{l[0]})
	becomes(t, "drop index k", asIs)
	becomes(t, "drop index l", asIs)
	fails(t, api.ErrName, "drop index j", "drop index t", "drop index a")
	failing(t, api.ErrName, stated(t, "drop index k"), nil)
	failing(t, api.ErrName, api.Stmt{Kind: api.SDropIndex}, tables())
}

func TestSessions(t *testing.T) { // 20.2
	for _, s := range []string{"begin", "commit", "rollback", "savepoint t", "rollback to s", "release z"} {
		becomes(t, s, asIs)
	}
	for _, kind := range []int{0, -1, api.SRelease + 1, 99, math.MaxInt, math.MinInt} {
		failing(t, api.ErrArg, api.Stmt{Kind: kind, Table: "t", Name: "k"}, tables())
	}
	full := api.Stmt{Table: "t", Name: "k", Column: "a", Unique: true, Cols: []api.Col{{Name: "a"}}, Columns: []string{"z"}, Rows: [][]api.Expr{{num(1)}, {name("a"), null()}}, Sets: []api.Expr{name("z")}, Explain: true, Distinct: true, Items: []api.Item{{Star: true, E: name("a"), As: "b", Name: "c"}}, From: []api.Ref{{Table: "t", Alias: "u", On: name("z")}}, Where: name("z"), Having: within(null()), Group: []api.Expr{num(1)}, Order: []api.Order{{E: star(), Desc: true}}, Limit: 5, Offset: 6}
	for _, kind := range []int{api.SDrop, api.SDropIndex, api.SBegin, api.SCommit, api.SRollback, api.SSave, api.SBack, api.SRelease} {
		full.Kind = kind
		gives(t, full, asIs)
	}
}

func TestInsert(t *testing.T) { // 20.2
	all := func(x *api.Stmt) { x.Columns = []string{"a", "b", "c"} }
	becomes(t, "insert into t values (1, 'x', true)", all)
	becomes(t, "insert into t values (null, null, null), (1 + 1, 'x' || 'y', 1 = 1), (abs(- 1), coalesce(null), null and null)", all)
	becomes(t, "insert into t (c, a) values (true, 1), (false, 2)", asIs)
	becomes(t, "insert into u (e) values ('x')", asIs)
	gives(t, api.Stmt{Kind: api.SInsert, Table: "t"}, all)
	gives(t, api.Stmt{Kind: api.SInsert, Table: "t", Columns: []string{}}, all)
	fails(t, api.ErrName, "insert into v values (1)", "insert into t (z) values (1)", "insert into t (a, z) values (1, 1)", "insert into t (a, a) values (1, 1)", "insert into t (a, b, a) values (1, 'x', 1)", "insert into t (d) values (true)",
		"insert into t values (a, 'x', true)", "insert into t values (t.a, 'x', true)", "insert into t (a) values (1), (z)", "insert into t (a) values (foo(1))", "insert into t (a, z) values ('x')")
	fails(t, api.ErrType, "insert into t values (1, 'x')", "insert into t values (1, 'x', true, true)", "insert into t values (1)", "insert into t values ('x', 'x', true)", "insert into t values (1, 1, true)", "insert into t values (1, 'x', 1)", "insert into t (c, a) values (1, true)", "insert into t (a) values (1), (2, 3)", "insert into t (a) values (1), ('x')", "insert into t (a) values (1 + 'x')", "insert into t (a) values (null = 1)")
	fails(t, api.ErrAgg, "insert into t (a) values (count(*))", "insert into t (a) values (1 + max(1))")
	// row by row, each its length, then from the left
	fails(t, api.ErrName, "insert into t (a, b) values (z, 1), (1)", "insert into t (a, b) values (z, count(*))", "insert into t (a, b) values (1, 'x'), (z, z), ('x', 'x')")
	fails(t, api.ErrType, "insert into t (a, b) values (1), (z, 1)", "insert into t (a, b) values ('x', z)", "insert into t (a, b) values (z)", "insert into t (a, b) values ('x', count(*))")
	fails(t, api.ErrAgg, "insert into t (a, b) values (count(*), 1), (z, z)")
	failing(t, api.ErrArg, api.Stmt{Kind: api.SInsert, Table: "t", Columns: []string{"a"}, Rows: [][]api.Expr{{col(0, 0)}}}, tables())
	failing(t, api.ErrType, api.Stmt{Kind: api.SInsert, Table: "t", Rows: [][]api.Expr{nil}}, tables())
	failing(t, api.ErrName, api.Stmt{Kind: api.SInsert, Table: "t"}, []api.Table{table("t", "a i", "a t")}) // comes twice
	failing(t, api.ErrType, stated(t, "insert into t values (1)"), []api.Table{table("t", "n n")})          // what can only be null fits every type, but a column fits its own alone
	if x, err := bind.Statement(stated(t, "insert into t values (null)"), []api.Table{table("t", "n n")}); err != api.OK || !reflect.DeepEqual(x.Columns, []string{"n"}) {
		t.Error(brief(x), err)
	}
	x, err := bind.Statement(api.Stmt{Kind: api.SInsert, Table: "t", Rows: [][]api.Expr{nil, {}}}, []api.Table{table("t")})
	if err != api.OK || len(x.Columns) != 0 || len(x.Rows) != 2 || len(x.Rows[0]) != 0 || len(x.Rows[1]) != 0 {
		t.Error(brief(x), err)
	}
}

func TestUpdate(t *testing.T) { // 20.2
	becomes(t, "update t set a = a + 1, c = null, b = t.b || 'x' where c and t.a > 1", func(x *api.Stmt) {
		x.Sets = []api.Expr{op(api.XAdd, col(0, 0), num(1)), null(), op(api.XCat, col(0, 1), text("x"))}
		x.Where = op(api.XAnd, col(0, 2), op(api.XGt, col(0, 0), num(1)))
	})
	becomes(t, "update u set a = null", asIs)
	becomes(t, "update u set e = 'x' where null", asIs)
	fails(t, api.ErrName, "update v set a = 1", "update t set z = 1", "update t set a = 1, a = 2", "update t set a = 1, b = 'x', a = 2", "update t set a = z", "update t set a = u.a", "update t set b = e", "update t set a = 1 where z", "update t set a = 1 where u.d", "update t set a = 'x', z = 1", "update t set a = 1, a = 'x'", "update t set a = z where 1", "update t set a = z, b = 1")
	fails(t, api.ErrType, "update t set a = 'x'", "update t set a = b", "update t set a = 1, b = 1", "update t set a = b + 1", "update t set a = 1 where a", "update t set a = 1 where b", "update t set a = 1 where 1 = 'x'", "update t set a = 'x', b = z", "update t set a = 'x' where z", "update t set c = a")
	fails(t, api.ErrAgg, "update t set a = sum(a)", "update t set a = 1 where count(*) = 1", "update t set a = min(1), b = z")
	failing(t, api.ErrName, api.Stmt{Kind: api.SUpdate, Table: "t"}, tables()) // one at least
	failing(t, api.ErrName, api.Stmt{Kind: api.SUpdate, Table: "t", Sets: []api.Expr{num(1)}}, tables())
	failing(t, api.ErrType, api.Stmt{Kind: api.SUpdate, Table: "t", Columns: []string{"a"}}, tables())
	failing(t, api.ErrType, api.Stmt{Kind: api.SUpdate, Table: "t", Columns: []string{"a"}, Sets: []api.Expr{num(1), num(1)}}, tables())
	failing(t, api.ErrArg, api.Stmt{Kind: api.SUpdate, Table: "t", Columns: []string{"a"}, Sets: []api.Expr{{}}}, tables()) // Op 0 is no clause there
}

func TestDelete(t *testing.T) { // 20.2
	becomes(t, "delete from t", asIs)
	becomes(t, "delete from u where u.d or e = 'x'", func(x *api.Stmt) {
		x.Where = op(api.XOr, col(0, 1), op(api.XEq, col(0, 2), text("x")))
	})
	fails(t, api.ErrName, "delete from v", "delete from t where z", "delete from t where u.a = 1", "delete from t where d", "delete from v where 1")
	fails(t, api.ErrType, "delete from t where a", "delete from t where 1 + 'x'")
	fails(t, api.ErrAgg, "delete from t where sum(a) = 1", "delete from t where min(c)")
}

// TestLeftOut: a clause of Op 0 is none, whatever else it has, and bound it is the zero one.
func TestLeftOut(t *testing.T) { // 20.2
	junk := api.Expr{Name: "zz", Table: "t", T: 1, Not: true, Star: true, V: api.Value{Type: 9}, Kids: []api.Expr{name("zz"), star(), {Op: 99}}}
	for _, s := range []string{"update t set a = 1", "delete from t", "select 1 from t", "select 1 from t join u on null join t as v on true"} {
		x := stated(t, s)
		want, err := bind.Statement(x, tables())
		x.Where = junk
		if x.Kind == api.SSelect {
			x.Having = junk
			x.From[0].On = junk
		}
		if len(x.From) > 1 {
			x.From[1].On, want.From[1].On = junk, api.Expr{}
		}
		got, e := bind.Statement(x, tables())
		if err != api.OK || e != api.OK || !reflect.DeepEqual(got, want) || got.Where.Op != 0 {
			t.Errorf("%q: %s, %d; want %s, %d", s, brief(got), e, brief(want), err)
		}
	}
	// the first table's On joins nothing, whatever it is
	s := stated(t, "select 1 from t")
	s.From[0].On = name("zz")
	gives(t, s, func(x *api.Stmt) {
		x.From = []api.Ref{{Table: "t", Alias: "t"}}
		x.Items = []api.Item{{E: num(1), Name: "?"}}
	})
}

func TestFrom(t *testing.T) { // 20.2
	works(t, "select 1 from t", "select 1 from t a join t b on true", "select 1 from t join u on true join t as v on true join u as w on true", "select 1 from t join u as z on null", "select 1 from t as u join u as t on true")
	fails(t, api.ErrName, "select 1 from v", "select 1 from t join v on true", "select 1 from v as t", "select 1 from t join t on true", "select 1 from t join u as t on true", "select 1 from t as v join u on true join u as v on true", "select 1 from t a join t b on true join t c on true join t d on true join t e on true")
	fails(t, api.ErrName, "select t.a from t as v", "select u.a from t as u where u.d", "select 1 from t as v where t.c")
	// the tables ahead of each On
	fails(t, api.ErrName, "select 1 from t join u on 1 join v on true", "select 1 from t join u on 1 join t on true", "select 1 from t a join t b on 1 join t c on 1 join t d on 1 join t e on 1")
	// without a table nothing has a name
	gives(t, api.Stmt{Kind: api.SSelect, Items: []api.Item{{E: num(1)}, {Star: true}}}, func(x *api.Stmt) {
		x.Items = []api.Item{{E: num(1), Name: "?"}}
	})
	failing(t, api.ErrName, api.Stmt{Kind: api.SSelect, Items: []api.Item{{E: name("a")}}}, tables())
}

func TestOn(t *testing.T) { // 20.2
	becomes(t, "select 1 from t join u on t.a = u.a join t as v on v.b = t.b and d", func(x *api.Stmt) {
		x.Items = []api.Item{{E: num(1), Name: "?"}}
		x.From = slices.Clone(x.From)
		x.From[1].On = op(api.XEq, col(0, 0), col(1, 0))
		x.From[2].On = op(api.XAnd, op(api.XEq, col(2, 1), col(0, 1)), col(1, 1))
	})
	works(t, "select 1 from t join u on null join t as v on true", "select 1 from t join u on b = 'x' join t as v on e = 'y'", "select 1 from t a join t b on true join t c on a.a = c.a join t d on d.a = 1")
	fails(t, api.ErrName, "select 1 from t join u on v.a = 1 join t as v on true", "select 1 from t join u on z", "select 1 from t join u on a = 1", "select 1 from t join u on true join t as v on b = 'x'", "select 1 from t join u on w.a = 1 join t as v on true join t as w on true", "select 1 from t a join t b on a.a = c.a join t c on true")
	fails(t, api.ErrType, "select 1 from t join u on b", "select 1 from t join u on 1", "select 1 from t join u on true join t as v on 'x'", "select 1 from t join u on t.a = e")
	fails(t, api.ErrAgg, "select 1 from t join u on count(*) = 1", "select 1 from t join u on max(d)")
}

func TestWhere(t *testing.T) { // 20.2
	becomes(t, "select 1 from t join u on true where d and e = b", func(x *api.Stmt) {
		x.Items = []api.Item{{E: num(1), Name: "?"}}
		x.Where = op(api.XAnd, col(1, 1), op(api.XEq, col(1, 2), col(0, 1)))
	})
	works(t, "select 1 from t where null", "select 1 from t where coalesce(null)", "select 1 from t where c")
	fails(t, api.ErrName, "select 1 from t where d", "select 1 from t join u on true where a = 1", "select a as x from t where x = 1", "select 1 from t where v.a = 1")
	fails(t, api.ErrType, "select 1 from t where a", "select 1 from t where b", "select 1 from t where 1", "select 1 from t where b = 1")
	fails(t, api.ErrAgg, "select a from t where count(*) = 1", "select 1 from t where min(c)")
}

func TestGroup(t *testing.T) { // 20.2
	becomes(t, "select e from t join u on true group by e, t.a, u.a, e", func(x *api.Stmt) {
		x.Items = []api.Item{{E: col(1, 2), Name: "e"}}
		x.Group = []api.Expr{col(1, 2), col(0, 0), col(1, 0), col(1, 2)}
	})
	fails(t, api.ErrName, "select 1 from t group by z", "select 1 from t join u on true group by a", "select 1 from t group by u.a", "select a as x from t group by x", "select 1 from t group by z, a + 1", "select 1 from t group by a, z, 1")
	fails(t, api.ErrAgg, "select 1 from t group by a + 1", "select 1 from t group by 1", "select 1 from t group by null", "select 1 from t group by count(*)", "select 1 from t group by a, b, - a", "select 1 from t group by 1, z", "select 1 from t group by z + 1", "select 1 from t group by b + 1", "select 1 from t group by coalesce(a)")
	s := stated(t, "select 1 from t group by a")
	for _, e := range []api.Expr{{}, {Op: 99}, op(api.XNot, num(1))} {
		s.Group = []api.Expr{e}
		failing(t, api.ErrAgg, s, tables())
	}
	s.Group = []api.Expr{{Op: api.XName, Name: "a", Kids: []api.Expr{null()}}}
	failing(t, api.ErrArg, s, tables())
	s.Group = []api.Expr{name("a"), col(0, 0)} // 20.4
	failing(t, api.ErrArg, s, tables())
}

func TestItems(t *testing.T) { // 20.2
	becomes(t, "select a, t.b, c as d, 1, 'x' as y, a + 1, count(*), - a, sum(a) as s, min(b), abs(a), coalesce(b, b) as b, null, not c from t group by a, b, c", func(x *api.Stmt) {
		x.Items = []api.Item{
			{E: col(0, 0), Name: "a"}, {E: col(0, 1), Name: "b"}, {E: col(0, 2), As: "d", Name: "d"}, {E: num(1), Name: "?"}, {E: text("x"), As: "y", Name: "y"}, {E: op(api.XAdd, col(0, 0), num(1)), Name: "?"},
			{E: star(), Name: "count"}, {E: op(api.XNeg, col(0, 0)), Name: "?"}, {E: agg("sum", col(0, 0)), As: "s", Name: "s"}, {E: agg("min", col(0, 1)), Name: "min"}, {E: call("abs", col(0, 0)), Name: "abs"},
			{E: call("coalesce", col(0, 1), col(0, 1)), As: "b", Name: "b"}, {E: null(), Name: "?"}, {E: op(api.XNot, col(0, 2)), Name: "?"},
		}
		x.Group = []api.Expr{col(0, 0), col(0, 1), col(0, 2)}
	})
	all := []api.Item{{E: col(0, 0), Name: "a"}, {E: col(0, 1), Name: "b"}, {E: col(0, 2), Name: "c"}, {E: col(1, 0), Name: "a"}, {E: col(1, 1), Name: "d"}, {E: col(1, 2), Name: "e"}}
	becomes(t, "select * from t join u on true", func(x *api.Stmt) { x.Items = all })
	becomes(t, "select * from t limit 3 offset 2", func(x *api.Stmt) { x.Items = all[:3] })
	becomes(t, "explain select distinct * from t", func(x *api.Stmt) { x.Items = all[:3] })
	s := stated(t, "select * from t join u on true") // a star stands for all columns wherever it stands
	s.Items = []api.Item{{E: num(1)}, {Star: true, E: name("zz")}, {E: num(2)}, {Star: true}}
	gives(t, s, func(x *api.Stmt) {
		one, two := api.Item{E: num(1), Name: "?"}, api.Item{E: num(2), Name: "?"}
		x.Items = slices.Concat([]api.Item{one}, all, []api.Item{two}, all)
	})
	s.Items = []api.Item{{E: name("b"), Name: "zz"}, {E: num(1), As: "n", Name: "zz"}}
	gives(t, s, func(x *api.Stmt) {
		x.Items = []api.Item{{E: col(0, 1), Name: "b"}, {E: num(1), As: "n", Name: "n"}}
	})
	fails(t, api.ErrName, "select z from t", "select a from t join u on true", "select b, z from t", "select v.a from t", "select a as x, x from t", "select foo(a) from t", "select z, b + 1 from t")
	fails(t, api.ErrType, "select b + 1 from t", "select 1, a || b from t", "select sum(b) from t", "select b + 1, z from t")
	fails(t, api.ErrAgg, "select sum(sum(a)) from t")
	s.Items = []api.Item{{}}
	failing(t, api.ErrArg, s, tables())
	s.Items = []api.Item{{E: col(0, 0)}}
	failing(t, api.ErrArg, s, tables())
}

func TestHaving(t *testing.T) { // 20.2
	becomes(t, "select 1 from t group by c having c and sum(a) > 1", func(x *api.Stmt) {
		x.Items = []api.Item{{E: num(1), Name: "?"}}
		x.Group = []api.Expr{col(0, 2)}
		x.Having = op(api.XAnd, col(0, 2), op(api.XGt, agg("sum", col(0, 0)), num(1)))
	})
	works(t, "select 1 from t having true", "select count(*) from t having null", "select 1 from t having max(c)", "select c from t group by c having c")
	fails(t, api.ErrName, "select 1 from t having z", "select count(*) as x from t having x > 1")
	fails(t, api.ErrType, "select 1 from t having a", "select 1 from t having count(*)", "select 1 from t having min(b)", "select 1 from t having a", "select a from t having a")
	fails(t, api.ErrAgg, "select 1 from t having min(min(c))")
}

func TestOrder(t *testing.T) { // 20.2
	order := func(items []api.Item, l ...api.Order) func(x *api.Stmt) {
		return func(x *api.Stmt) { x.Items, x.Order = items, l }
	}
	becomes(t, "select a as b from t order by b, t.b desc, a", order([]api.Item{{E: col(0, 0), As: "b", Name: "b"}}, api.Order{E: col(0, 0)}, api.Order{E: col(0, 1), Desc: true}, api.Order{E: col(0, 0)}))
	becomes(t, "select a + 1 as n, 2 as n, b as a from t order by n desc, a, b", order(
		[]api.Item{{E: op(api.XAdd, col(0, 0), num(1)), As: "n", Name: "n"}, {E: num(2), As: "n", Name: "n"}, {E: col(0, 1), As: "a", Name: "a"}},
		api.Order{E: op(api.XAdd, col(0, 0), num(1)), Desc: true}, api.Order{E: col(0, 1)}, api.Order{E: col(0, 1)}))
	becomes(t, "select a as b from t order by b || 'x'", order([]api.Item{{E: col(0, 0), As: "b", Name: "b"}}, api.Order{E: op(api.XCat, col(0, 1), text("x"))}))
	becomes(t, "select 1 from t order by a % 2, - a, 'x', null", order([]api.Item{{E: num(1), Name: "?"}}, api.Order{E: op(api.XMod, col(0, 0), num(2))}, api.Order{E: op(api.XNeg, col(0, 0))}, api.Order{E: text("x")}, api.Order{E: null()}))
	becomes(t, "select count(*) as n from t order by n, sum(a)", order([]api.Item{{E: star(), As: "n", Name: "n"}}, api.Order{E: star()}, api.Order{E: agg("sum", col(0, 0))}))
	becomes(t, "select 1 as a from t join u on true order by a", order([]api.Item{{E: num(1), As: "a", Name: "a"}}, api.Order{E: num(1)}))
	works(t, "select a from t order by a", "select 1 from t order by b", "select c as x from t order by x, t.c", "select b as x from t order by a")
	fails(t, api.ErrName, "select a from t order by z", "select a as x from t order by x + 1", "select a as x from t order by t.x", "select a as x from t order by - x", "select 1 from t join u on true order by a", "select abs(a) from t order by abs", "select a as x from t order by x, z", "select a as x from t order by min(x)")
	fails(t, api.ErrType, "select b as a from t order by a || 'x'", "select a from t order by b + 1", "select a as b from t order by b + 1")
	fails(t, api.ErrAgg, "select count(*) as x from t order by sum(count(*))")
	// an As that is none names nothing
	s := stated(t, "select a, b from t order by a")
	s.Order[0].E = name("")
	failing(t, api.ErrName, s, tables())
	s = stated(t, "select a as x, b from t order by x")
	s.Order[0].E.Kids = []api.Expr{null()}
	failing(t, api.ErrArg, s, tables())
	s.Order[0].E = api.Expr{}
	failing(t, api.ErrArg, s, tables())
}

func TestGrouped(t *testing.T) { // 20.2
	works(t, "select a, count(*) from t group by a having sum(a) > 1 order by a, count(*)", "select a + 1 from t group by a", "select a + a * 2 from t group by a", "select * from t group by a, b, c", "select * from t group by c, a, b", "select 1 from t group by a", "select count(*) from t", "select count(*), 1 from t having true", "select sum(a + length(b)) from t group by c", "select 1 from t order by count(*)", "select t.a from t group by a", "select a as x from t group by a order by x", "select max(a) as x from t order by x", "select 1 from t having min(a) = 1 order by max(b)", "select a in (1, min(a)) from t group by a", "select u.a from t join u on true group by u.a order by sum(t.a)", "select a from t order by b", "select count(b is null and c) + 1 from t")
	fails(t, api.ErrAgg, "select a from t group by b", "select a, count(*) from t", "select count(*), a from t", "select count(*) + a from t", "select a from t having true", "select a from t having null", "select 1 from t group by a having c", "select count(*) from t order by a", "select a from t order by count(*)", "select a from t group by a order by b", "select a from t group by a order by a, b", "select a from t group by a having b = 'x'", "select * from t group by a", "select * from t group by a, b", "select * from t having true", "select *  from t order by count(*)", "select a + length(b) is null from t group by a, c", "select t.a from t join u on true group by u.a", "select u.a from t join u on true group by t.a", "select sum(t.a), u.a from t join u on true", "select b as x from t group by a order by x", "select 1 from t order by a, count(*)", "select abs(a) from t having count(*) = 1", "select a in (1, min(a)) from t", "select not b is null from t group by c")
}

func TestDistinct(t *testing.T) { // 20.2
	works(t, "select distinct a from t order by a", "select distinct a as x, b from t order by x", "select distinct a as x, b from t order by b desc, a, x, t.a", "select distinct * from t order by c, a", "select distinct a + 1 from t order by a + 1", "select distinct count(*) from t order by count(*)", "select distinct a from t", "select distinct 1 from t order by 1", "select distinct a, count(*) as n from t group by a order by n, a")
	fails(t, api.ErrAgg, "select distinct a from t order by b", "select distinct a from t order by a, b", "select distinct a from t order by a + 1", "select distinct a + 1 from t order by a", "select distinct a + 1 from t order by 1 + a", "select distinct 1 from t order by 2", "select distinct 1 from t order by '1'", "select distinct a from t order by - a", "select distinct a from t group by a, b order by b", "select distinct count(*) from t order by count(a)", "select distinct b from t order by null", "select distinct a as x from t order by c", "select distinct t.a from t join u on true order by u.a")
	works(t, "select a from t order by b", "select a from t order by a + 1")
}

// TestClauses: clause by clause, and what joins them last.
func TestClauses(t *testing.T) { // 20.2
	l := []struct {
		right string
		wrong map[api.Errno]string
	}{
		{"from t join u on true", map[api.Errno]string{api.ErrName: "from t join u on z", api.ErrType: "from t join u on 1", api.ErrAgg: "from t join u on max(c)"}},
		{"where true", map[api.Errno]string{api.ErrName: "where z", api.ErrType: "where 1", api.ErrAgg: "where max(c)"}},
		{"group by b", map[api.Errno]string{api.ErrName: "group by z", api.ErrAgg: "group by 1"}},
		{"b", map[api.Errno]string{api.ErrName: "z", api.ErrType: "1 + b", api.ErrAgg: "min(min(1))"}},
		{"having true", map[api.Errno]string{api.ErrName: "having z", api.ErrType: "having 1", api.ErrAgg: "having max(max(c))"}},
		{"order by b", map[api.Errno]string{api.ErrName: "order by z", api.ErrType: "order by 1 + b", api.ErrAgg: "order by max(max(c))"}},
	}
	ask := func(parts []string) api.Errno {
		s := "select distinct " + parts[3] + " " + parts[0] + " " + parts[1] + " " + parts[2] + " " + parts[4] + " " + parts[5]
		_, err := bind.Statement(stated(t, s), tables())
		return err
	}
	for i := range l {
		for reason, first := range l[i].wrong {
			for j := i + 1; j < len(l); j++ {
				for _, second := range l[j].wrong {
					parts := make([]string, len(l))
					for k := range l {
						parts[k] = l[k].right
					}
					if err := ask(parts); err != api.OK {
						t.Fatal(parts, err)
					}
					parts[i], parts[j] = first, second
					if err := ask(parts); err != reason {
						t.Errorf("%q is %d, want %d", parts, err, reason)
					}
				}
			}
		}
	}
	// an item that is no group's comes behind all clauses
	fails(t, api.ErrName, "select a from t group by b having z", "select a from t group by b order by z", "select distinct b from t order by a, z")
	fails(t, api.ErrType, "select a from t group by b having 1", "select a from t having true order by 1 + b", "select distinct b from t order by a, 1 + b")
}
