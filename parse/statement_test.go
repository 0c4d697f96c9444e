package parse_test

import (
	"math"
	"reflect"
	"strings"
	"testing"

	"palimpsest/api"
	"palimpsest/parse"
)

func refs(l ...string) []api.Ref {
	var r []api.Ref
	for _, s := range l {
		r = append(r, api.Ref{Table: s, Alias: s})
	}
	return r
}

func items(l ...api.Expr) []api.Item {
	var r []api.Item
	for _, e := range l {
		r = append(r, api.Item{E: e})
	}
	return r
}

// all wants a text to be that statement, in either case, with white or remarks anywhere between, and with a ; behind; a second ; and whatever else does not fit.
func all(t *testing.T, s string, want api.Stmt) {
	t.Helper()
	states(t, s, want)
	states(t, s+";", want)
	states(t, "\t"+s+" --;\n ;\r\n--", want)
	misstated(t, s+";^;", s+" ; ^"+s, "^;"+s, s+" ^begin", s+" ^)", s+" ^1", s+"; ^1", s+"; ^)", s+" ^'x'", "^("+s+")")
	if !strings.Contains(s, "'") {
		states(t, strings.ToUpper(s), want)
		states(t, strings.ToLower(s), want)
		states(t, strings.ReplaceAll(s, " ", "\n--it's ! 1x\n\t"), want)
	}
}

// cuts wants a statement to be wrong wherever it ends ahead of where it may, each token being one part: ends tells how many parts may stand.
func cuts(t *testing.T, s string, ends ...int) {
	t.Helper()
	parts := strings.Split(s, " ")
	may := map[int]bool{len(parts): true}
	for _, n := range ends {
		may[n] = true
	}
	for n := range len(parts) + 1 {
		cut := strings.Join(parts[:n], " ")
		if _, err, at := parse.Statement(cut); may[n] && (err != api.OK || at != 0) || !may[n] && (err != api.ErrSyntax || at != len(cut)) {
			t.Errorf("Statement(%q): %d, %d", cut, err, at)
		}
	}
}

func TestNoStatement(t *testing.T) { // 19.2
	misstated(t, "^", "  ^", "--x^", "^;", " ^;;", "^x", "^1", "^'begin'", "^(begin)", "^*", "^table", "^a = 1", "^count(*)", "^begins", "^beg in", "^from t", "^with", "^alter table t", "^end", "^set a = 1", "^values (1)", "^explain_", "^to s", "^_", "^abs(1)")
	for _, s := range reserved() {
		switch s {
		case "begin", "commit", "rollback":
			states(t, s, api.Stmt{Kind: map[string]int{"begin": api.SBegin, "commit": api.SCommit, "rollback": api.SRollback}[s]})
		case "create", "drop", "insert", "update", "delete", "select", "explain", "savepoint", "release":
			misstated(t, s+"^", s+"^;", s+" ^=", s+" ^,")
		default:
			misstated(t, "^"+s)
		}
	}
}

func TestTransactions(t *testing.T) { // 19.2
	all(t, "BEGIN", api.Stmt{Kind: api.SBegin})
	all(t, "COMMIT", api.Stmt{Kind: api.SCommit})
	all(t, "ROLLBACK", api.Stmt{Kind: api.SRollback})
	all(t, "SAVEPOINT s", api.Stmt{Kind: api.SSave, Name: "s"})
	all(t, "ROLLBACK TO s", api.Stmt{Kind: api.SBack, Name: "s"})
	all(t, "RELEASE s", api.Stmt{Kind: api.SRelease, Name: "s"})
	cuts(t, "savepoint s")
	cuts(t, "rollback to s", 1)
	cuts(t, "release s")
	misstated(t, "begin ^begin", "begin ^transaction", "begin ^s", "commit ^work", "commit ^to s", "rollback ^s", "rollback ^savepoint s", "rollback to ^savepoint s", "rollback to ^1", "rollback to s^, r", "savepoint s^.r", "savepoint ^1", "savepoint s ^s", "release ^savepoint s", "release ^to s", "release s^, r", "explain ^begin", "begin^(s)")
}

func TestCreateTable(t *testing.T) { // 19.2
	col := func(n string, kind int, notNull, unique bool) api.Col {
		return api.Col{Name: n, Type: kind, NotNull: notNull, Unique: unique}
	}
	all(t, "CREATE TABLE t (a INT)", api.Stmt{Kind: api.SCreate, Table: "t", Cols: []api.Col{col("a", api.TInt, false, false)}})
	all(t, "create table t_1 (a int, b text not null, c bool unique, d int primary key, e text not null unique)", api.Stmt{Kind: api.SCreate, Table: "t_1", Cols: []api.Col{
		col("a", api.TInt, false, false), col("b", api.TText, true, false), col("c", api.TBool, false, true), col("d", api.TInt, true, true), col("e", api.TText, true, true),
	}})
	all(t, "create table t (a text not null unique primary key, a text unique primary key, a text not null primary key)", api.Stmt{Kind: api.SCreate, Table: "t", Cols: []api.Col{
		col("a", api.TText, true, true), col("a", api.TText, true, true), col("a", api.TText, true, true),
	}})
	many := api.Stmt{Kind: api.SCreate, Table: "t"}
	for range 60 {
		many.Cols = append(many.Cols, col("x", api.TBool, false, false))
	}
	all(t, "create table t ("+strings.Repeat(", x bool", 60)[2:]+")", many)
	cuts(t, "create table t ( a int not null unique primary key , b text , c bool primary key )")
	misstated(t,
		"create ^t (a int)", "create table ^(a int)", "create table t ^a int", "create table t^", "create table t^.a (a int)", "create table t (^)", "create table t (a^)", "create table t (a^,", "create table t (^int)", "create table t (^1 int)",
		"create table t (a ^float)", "create table t (a ^integer)", "create table t (a ^varchar(3))", "create table t (a ^b)", "create table t (a ^not null)", "create table t (a ^null)", "create table t (a ^'int')", "create table t (a int ^int)",
		"create table t (a int ^null)", "create table t (a int not ^unique)", "create table t (a int not^)", "create table t (a int primary^)", "create table t (a int primary ^unique)", "create table t (a int ^key)", "create table t (a int^(3))",
		"create table t (a int unique ^not null)", "create table t (a int primary key ^not null)", "create table t (a int primary key ^unique)", "create table t (a int unique ^unique)", "create table t (a int not null ^not null)", "create table t (a int primary key ^primary key)",
		"create table t (a int,^)", "create table t (^, a int)", "create table t (a int,^, b int)", "create table t (a int^; b int)", "create table t (a int ^b int)", "create table t (a int)^, u (a int)", "create table t (a int) ^a", "create table t (^(a int))", "create table ^unique t (a int)", "create ^create table t (a int)", "create table t (a int ^default 1)", "create table t (a int ^= 1)", "create table t (a^.b int)", "create table ^'t' (a int)",
	)
}

func TestDrop(t *testing.T) { // 19.2
	all(t, "DROP TABLE t", api.Stmt{Kind: api.SDrop, Table: "t"})
	all(t, "DROP INDEX i", api.Stmt{Kind: api.SDropIndex, Name: "i"})
	cuts(t, "drop table t")
	cuts(t, "drop index i")
	misstated(t, "drop ^t", "drop ^unique index i", "drop table t^, u", "drop table ^1", "drop table t^.u", "drop table t ^u", "drop index i ^on t", "drop index ^(i)", "drop index ^exists i", "drop ^column a", "drop table ^table t", "drop index ^index i")
}

func TestCreateIndex(t *testing.T) { // 19.2
	all(t, "CREATE INDEX i ON t (a)", api.Stmt{Kind: api.SIndex, Name: "i", Table: "t", Column: "a"})
	all(t, "CREATE UNIQUE INDEX a ON a (a)", api.Stmt{Kind: api.SIndex, Name: "a", Table: "a", Column: "a", Unique: true})
	cuts(t, "create index i on t ( a )")
	cuts(t, "create unique index i on t ( a )")
	misstated(t, "create unique ^table t (a int)", "create unique ^unique index i on t (a)", "create index ^unique i on t (a)", "create index ^on t (a)", "create index i ^t (a)", "create index i^(a)", "create index i on t ^a", "create index i on t (^)", "create index i on t (a^, b)", "create index i on t (a ^desc)", "create index i on t (a^.b)", "create index i on t (^1)", "create index i on t (^(a))", "create index i on t (a^+ 1)", "create index i on t^.a", "create index i on t (a) ^unique", "create unique ^i on t (a)", "create index i on t (^*)")
}

func TestInsert(t *testing.T) { // 19.2
	all(t, "INSERT INTO t VALUES (1)", api.Stmt{Kind: api.SInsert, Table: "t", Rows: [][]api.Expr{{num(1)}}})
	all(t, "INSERT INTO t (a) VALUES (1, b), (a), (NULL)", api.Stmt{Kind: api.SInsert, Table: "t", Columns: []string{"a"}, Rows: [][]api.Expr{{num(1), b()}, {a()}, {null()}}})
	all(t, "insert into t (a, b, a) values (1 + 2, not true, 'it''s'), (- 1, a in (b), f(c))", api.Stmt{Kind: api.SInsert, Table: "t", Columns: []string{"a", "b", "a"}, Rows: [][]api.Expr{
		{op(api.XAdd, num(1), num(2)), op(api.XNot, truth(true)), text("it's")}, {op(api.XNeg, num(1)), op(api.XIn, a(), b()), call("f", c())},
	}})
	all(t, "insert into t values ((1)), (((1 or 2) and 3), count(*))", api.Stmt{Kind: api.SInsert, Table: "t", Rows: [][]api.Expr{{num(1)}, {op(api.XAnd, op(api.XOr, num(1), num(2)), num(3)), star()}}})
	cuts(t, "insert into t values ( 1 )")
	cuts(t, "insert into t ( a , b ) values ( 1 , 2 ) , ( 3 )", 14)
	misstated(t,
		"insert ^t values (1)", "insert into ^values (1)", "insert into t^", "insert into t (^1) values (1)", "insert into t (^) values (1)", "insert into t (a,^) values (1)", "insert into t (a ^b) values (1)", "insert into t (a^.b) values (1)", "insert into t (a) ^(b) values (1)", "insert into t ^a values (1)", "insert into t ^select a from t", "insert into t ^set a = 1",
		"insert into t values^", "insert into t values ^1", "insert into t values (^)", "insert into t values (1^", "insert into t values (1,^)", "insert into t values (^, 1)", "insert into t values (1 ^2)", "insert into t values (1) ^(2)", "insert into t values (1),^", "insert into t values (1), ^2", "insert into t values (1), (^)", "insert into t values (1), ^values (2)", "insert into t values (^*)", "insert into t values (1 ^as a)", "insert into t values (1) ^where a", "insert into t ^as u values (1)", "insert into t^.u values (1)", "insert into t (^*) values (1)", "insert into t values (1 ^default)", "insert into t values ((1^, 2))", "insert into ^into t values (1)", "insert into t ^value (1)",
	)
}

func TestUpdate(t *testing.T) { // 19.2
	all(t, "UPDATE t SET a = 1", api.Stmt{Kind: api.SUpdate, Table: "t", Columns: []string{"a"}, Sets: []api.Expr{num(1)}})
	all(t, "UPDATE t SET a = a + 1, b = NULL, a = b = c WHERE a > 1", api.Stmt{Kind: api.SUpdate, Table: "t", Columns: []string{"a", "b", "a"}, Sets: []api.Expr{op(api.XAdd, a(), num(1)), null(), op(api.XEq, b(), c())}, Where: op(api.XGt, a(), num(1))})
	all(t, "update t set a = a and b or c where not a = b and c", api.Stmt{Kind: api.SUpdate, Table: "t", Columns: []string{"a"}, Sets: []api.Expr{op(api.XOr, op(api.XAnd, a(), b()), c())}, Where: op(api.XAnd, op(api.XNot, op(api.XEq, a(), b())), c())})
	cuts(t, "update t set a = 1 , b = 2 where c", 6, 10)
	misstated(t, "update ^set a = 1", "update t ^a = 1", "update t^", "update t set^", "update t set a^", "update t set a ^1", "update t set a =^", "update t set a = ^= 1", "update t set a = 1 ^b = 2", "update t set a = 1,^", "update t set a = 1, ^where b", "update t set ^(a) = 1", "update t set a^.b = 1", "update t set t^.a = 1", "update t set ^1 = 1", "update t set a ^<> 1", "update t set a = 1 and^", "update t set a = 1 where^", "update t set a = 1 where a ^where b", "update t set a = 1 ^from t", "update t set a = 1 ^set b = 2", "update t set a = 1 where a^, b = 1", "update t ^as u set a = 1", "update t ^u set a = 1", "update t^, u set a = 1", "update t set a = 1, a ^+ 1", "update ^'t' set a = 1", "update t set a = b = c ^= d", "update t set a = 1 ^limit 1", "update t set ^* = 1")
}

func TestDelete(t *testing.T) { // 19.2
	all(t, "DELETE FROM t", api.Stmt{Kind: api.SDelete, Table: "t"})
	all(t, "DELETE FROM t WHERE a IS NOT NULL OR b", api.Stmt{Kind: api.SDelete, Table: "t", Where: op(api.XOr, no(op(api.XIsNull, a())), b())})
	all(t, "delete from t where null", api.Stmt{Kind: api.SDelete, Table: "t", Where: null()})
	cuts(t, "delete from t where a", 3)
	misstated(t, "delete ^t", "delete ^* from t", "delete from ^where a", "delete from t ^a", "delete from t^, u", "delete from t ^as u", "delete from t ^join u on a", "delete from t where^", "delete from t where ^where a", "delete from t ^order by a", "delete from t where a ^limit 1", "delete from t ^having a", "delete from t^.u", "delete from ^(t)", "delete ^table t", "delete from t where a^, b", "delete from t ^set a = 1")
}

func TestSelect(t *testing.T) { // 19.2
	q := func(f func(s *api.Stmt)) api.Stmt {
		s := api.Stmt{Kind: api.SSelect, Items: items(a()), From: refs("t"), Limit: -1}
		f(&s)
		return s
	}
	for s, f := range map[string]func(s *api.Stmt){
		"SELECT a FROM t":                  func(s *api.Stmt) {},
		"EXPLAIN SELECT a FROM t":          func(s *api.Stmt) { s.Explain = true },
		"SELECT DISTINCT a FROM t":         func(s *api.Stmt) { s.Distinct = true },
		"explain select distinct * from t": func(s *api.Stmt) { s.Explain, s.Distinct, s.Items = true, true, []api.Item{{Star: true}} },
		"SELECT * FROM t":                  func(s *api.Stmt) { s.Items = []api.Item{{Star: true}} },
		"SELECT a, b, 1 + 2 FROM t":        func(s *api.Stmt) { s.Items = items(a(), b(), op(api.XAdd, num(1), num(2))) },
		"select a as b, t.a, count(*) as n, not a as c from t": func(s *api.Stmt) {
			s.Items = []api.Item{{E: a(), As: "b"}, {E: of("t", "a")}, {E: star(), As: "n"}, {E: op(api.XNot, a()), As: "c"}}
		},
		"select (a) from t":    func(s *api.Stmt) {},
		"select a from t u":    func(s *api.Stmt) { s.From[0].Alias = "u" },
		"select a from t as u": func(s *api.Stmt) { s.From[0].Alias = "u" },
		"select a from t t":    func(s *api.Stmt) {},
		"select a from t join u on a = b": func(s *api.Stmt) {
			s.From = refs("t", "u")
			s.From[1].On = op(api.XEq, a(), b())
		},
		"select a from t as x inner join u y on a join t on b or c inner join u as z on null": func(s *api.Stmt) {
			s.From = []api.Ref{{Table: "t", Alias: "x"}, {Table: "u", Alias: "y", On: a()}, {Table: "t", Alias: "t", On: op(api.XOr, b(), c())}, {Table: "u", Alias: "z", On: null()}}
		},
		"select a from t where a = 1":      func(s *api.Stmt) { s.Where = op(api.XEq, a(), num(1)) },
		"select a from t u where b":        func(s *api.Stmt) { s.From[0].Alias = "u"; s.Where = b() },
		"select a from t group by b":       func(s *api.Stmt) { s.Group = []api.Expr{b()} },
		"select a from t group by b, a, c": func(s *api.Stmt) { s.Group = []api.Expr{b(), a(), c()} },
		"select a from t having count(*) > 1": func(s *api.Stmt) {
			s.Having = op(api.XGt, star(), num(1))
		},
		"select a from t order by b":      func(s *api.Stmt) { s.Order = []api.Order{{E: b()}} },
		"select a from t order by b asc":  func(s *api.Stmt) { s.Order = []api.Order{{E: b()}} },
		"select a from t order by b desc": func(s *api.Stmt) { s.Order = []api.Order{{E: b(), Desc: true}} },
		"select a from t order by b desc, a asc, c, 1 desc": func(s *api.Stmt) {
			s.Order = []api.Order{{E: b(), Desc: true}, {E: a()}, {E: c()}, {E: num(1), Desc: true}}
		},
		"select a from t limit 0":                              func(s *api.Stmt) { s.Limit = 0 },
		"select a from t limit 7":                              func(s *api.Stmt) { s.Limit = 7 },
		"select a from t limit 007 offset 9223372036854775807": func(s *api.Stmt) { s.Limit, s.Offset = 7, math.MaxInt },
		"select a from t limit 0 offset 0":                     func(s *api.Stmt) { s.Limit = 0 },
		"explain select distinct a, b as c from t as x join u on a inner join t y on b where c group by a, b having a or b order by a, b desc limit 1 offset 2": func(s *api.Stmt) {
			*s = api.Stmt{
				Kind: api.SSelect, Explain: true, Distinct: true, Items: []api.Item{{E: a()}, {E: b(), As: "c"}},
				From:  []api.Ref{{Table: "t", Alias: "x"}, {Table: "u", Alias: "u", On: a()}, {Table: "t", Alias: "y", On: b()}},
				Where: c(), Group: []api.Expr{a(), b()}, Having: op(api.XOr, a(), b()), Order: []api.Order{{E: a()}, {E: b(), Desc: true}}, Limit: 1, Offset: 2,
			}
		},
	} {
		all(t, s, q(f))
	}
	cuts(t, "explain select distinct a , b as c from t as x join u on a inner join t y on b where c group by a , b having a = b order by a , b desc limit 1 offset 2", 10, 12, 16, 22, 24, 27, 29, 31, 33, 36, 38, 39, 41)
	cuts(t, "select * from t u join t on a where b having c order by a asc limit 1", 4, 5, 9, 11, 13, 16, 17)
}

func TestWrongSelects(t *testing.T) { // 19.2
	misstated(t,
		"select^", "select ^from t", "select a^", "select a^;", "select a, ^from t", "select a ^b from t", "select a ^t", "select a as^", "select a as ^from t", "select a as ^1 from t", "select a as b ^c from t", "select a as b^.c from t", "select a as b ^+ 1 from t", "select a ^'b' from t",
		"select *^, a from t", "select * ^as b from t", "select a, ^* from t", "select *^*from t", "select *^.a from t", "select t.^* from t", "select * ^a from t", "select * ^+ 1 from t", "select (^*) from t", "select ^all a from t",
		"select distinct ^distinct a from t", "select distinct^", "select distinct ^from t", "^distinct a from t", "select a, ^distinct b from t", "select ^select a from t", "select a ^distinct from t",
		"explain ^explain select a from t", "explain^", "explain ^delete from t", "explain ^insert into t values (1)", "explain ^update t set a = 1", "explain ^(select a from t)", "explain ^create table t (a int)", "explain ^rollback",
		"select a from^", "select a from ^1", "select a from ^(t)", "select a from ^where a", "select a from t^, u", "select a from t^.u", "select a from t u ^v", "select a from t as^", "select a from t as ^where a", "select a from t as u ^v", "select a from t ^'u'", "select a from t ^1", "select a from t ^= u", "select a from ^*", "select a from t u ^as v", "select a from t^(u)", "select a from t as u^(a)",
		"select a from t join^", "select a from t inner^", "select a from t inner ^u on a", "select a from t join ^inner u on a", "select a from t inner ^inner join u on a", "select a from t join ^join u on a", "select a from t join u^", "select a from t join u ^where a", "select a from t join u ^join v on a", "select a from t join u v ^w on a", "select a from t join u on^", "select a from t join u on ^where a", "select a from t join u on a^, b", "select a from t ^on a", "select a from t u ^on a", "select a from t join u on a ^on b", "select a from t left ^outer join u on a", "select a from t cross ^cross join u", "select a from t join u on a ^u", "select a from t join ^(u) on a", "select a from t join u as ^on a",
		"select a from t where^", "select a from t where ^group by a", "select a from t where a ^where b", "select a from t where a ^join u on b", "select a from t where a ^b", "select a from t where a^, b", "select a from t where a ^as b", "select a from t where a ^asc", "select a from t where ^*", "select a from t where a ^on b",
		"select a from t group^", "select a from t group ^a", "select a from t group by^", "select a from t group by ^having a", "select a from t group by a,^", "select a from t group by a ^b", "select a from t group by a ^where b", "select a from t group by a ^group by b", "select a from t group by a ^desc", "select a from t ^by a", "select a from t group by ^*",
		"select a from t having^", "select a from t having a ^group by b", "select a from t having a ^where b", "select a from t having a^, b", "select a from t having a ^having b", "select a from t having ^by a", "select a from t having a ^asc",
		"select a from t order^", "select a from t order ^a", "select a from t order by^", "select a from t order by a,^", "select a from t order by a ^b", "select a from t order by a asc ^desc", "select a from t order by a desc ^asc", "select a from t order by a desc ^desc", "select a from t order by ^asc", "select a from t order by a ^where b", "select a from t order by a ^having b", "select a from t order by a ^group by b", "select a from t order by a ^order by b", "select a from t order by ^* ", "select a from t order by a desc ^b", "select a from t order by a ^as b", "select a from t order by a, ^desc", "select a from t ^desc",
		"select a from t limit^", "select a from t limit ^a", "select a from t limit ^-1", "select a from t limit ^'1'", "select a from t limit ^(1)", "select a from t limit ^null", "select a from t limit 1 ^+ 1", "select a from t limit 1^, 2", "select a from t limit 1 ^2", "select a from t limit 1 ^limit 1", "select a from t limit 1 offset^", "select a from t limit 1 offset ^a", "select a from t limit 1 offset ^-1", "select a from t limit 1 offset 1 ^1", "select a from t limit 1 offset 1 ^limit 1", "select a from t limit 1 offset 1 ^offset 1", "select a from t ^offset 1", "select a from t ^offset 1 limit 1", "select a from t limit ^offset 1", "select a from t limit 1 ^where a", "select a from t limit 1 ^order by a", "select a from t limit ^all", "select a from t limit 1^.5",
		"select a from t ^select b from t", "select a from t^)", "^(select a from t)", "select a from t ^and b", "select a from t ^set a = 1", "select a from t where a ^values (1)", "select a from t;^;",
	)
	refused(t, "select a from t limit 9223372036854775808", api.ErrSyntax, 22)
}

func TestKind(t *testing.T) { // 19.3
	words := []string{"", "create table", "drop table", "create index", "drop index", "insert", "update", "delete", "select", "begin", "commit", "rollback", "savepoint", "rollback to", "release", ""}
	for n := -100; n < 200; n++ {
		want := ""
		if n >= 0 && n < len(words) {
			want = words[n]
		}
		if s := parse.Kind(n); s != want {
			t.Errorf("Kind(%d) = %q, want %q", n, s, want)
		}
	}
	for _, n := range []int{math.MinInt, math.MaxInt, math.MinInt + 1, 1 << 32, 1<<32 + 1, 257, -255, 1<<62 + 8} {
		if s := parse.Kind(n); s != "" {
			t.Errorf("Kind(%d) = %q", n, s)
		}
	}
	if api.SRelease != 14 {
		t.Error("the kinds have other numbers")
	}
}

// TestWhatIsNotTold: of each kind just the fields of its row are told.
func TestWhatIsNotTold(t *testing.T) { // 19.2, DOC's rule 7
	rows := map[int][]string{
		api.SCreate: {"Table", "Cols"}, api.SDrop: {"Table"}, api.SIndex: {"Name", "Table", "Column", "Unique"}, api.SDropIndex: {"Name"},
		api.SInsert: {"Table", "Columns", "Rows"}, api.SUpdate: {"Table", "Columns", "Sets", "Where"}, api.SDelete: {"Table", "Where"},
		api.SSelect: {"Explain", "Distinct", "Items", "From", "Where", "Group", "Having", "Order", "Limit", "Offset"},
		api.SBegin:  {}, api.SCommit: {}, api.SRollback: {}, api.SSave: {"Name"}, api.SBack: {"Name"}, api.SRelease: {"Name"},
	}
	for _, s := range []string{
		"create table t (a int)", "drop table t", "create unique index i on t (a)", "drop index i", "insert into t (a) values (1)", "update t set a = 1 where b", "delete from t where b",
		"explain select distinct a from t where a group by a having a order by a limit 1 offset 1", "begin", "commit", "rollback", "savepoint s", "rollback to s", "release s",
	} {
		x, err, at := parse.Statement(s)
		if err != api.OK {
			t.Fatal(s, err, at)
		}
		told := map[string]bool{"Kind": true}
		for _, f := range rows[x.Kind] {
			told[f] = true
		}
		v := reflect.ValueOf(x)
		for i := range v.NumField() {
			if f := v.Type().Field(i).Name; told[f] == v.Field(i).IsZero() {
				t.Errorf("%q: %s is %v", s, f, v.Field(i))
			}
		}
	}
}
