package parse_test

import (
	"slices"
	"strings"
	"testing"

	"palimpsest/api"
	"palimpsest/parse"
)

// wrap is a form around an expression: open, the expression, shut; at is the place in open that is told where it is one too deep.
type wrap struct {
	open, shut string
	at         int
}

// tight are forms that begin with their parenthesis or name, so that they may stand right behind a sign.
func tight() []wrap {
	return []wrap{
		{"(", ")", 0}, {"f(", ")", 0}, {"abs (", ")", 0}, {"f(a, ", ")", 0}, {"length(", ")", 0}, {"coalesce(1, ", ", b)", 0},
		{"count(", ")", 0}, {"sum(", ")", 0}, {"min (", ")", 0}, {"MAX(", " or a)", 0}, {"(", " * a and b)", 0}, {"f(a is not null, ", ", b)", 0},
	}
}

// loose are others in parentheses. None has a form beside the one that it tells: that one would be too deep first.
func loose() []wrap {
	return []wrap{
		{"1 in (", ")", 5}, {"1 not in (", ")", 9}, {"a + 1 in (1, b, ", ", c)", 9}, {"a.b not in (1, ", ", 2)", 11}, {"a || 'x' = (", ")", 11},
		{"a + (", ")", 4}, {"b * 2 - (", ") / 2", 8}, {"a - f(", ") is null", 4}, {"a||g(", ")", 3}, {"a between 1 and (", ")", 16}, {"a between max(", ") and b", 10},
	}
}

// joined are others that would end what a NOT ahead of them is of.
func joined() []wrap {
	return []wrap{{"a and (", ")", 6}, {"a or f(", ") and b", 5}, {"a between 1 and 2 and (", ")", 22}}
}

// turns are lists of forms of which each may lie in the one ahead of it, the first in the last.
func turns() [][]wrap {
	minus, not, last := wrap{"- ", "", 0}, wrap{"not ", "", 0}, wrap{"a and not ", "", 6}
	brackets := slices.Concat(tight(), loose(), joined())
	l := [][]wrap{{minus}, {not}, {not, minus, {"(", ")", 0}}, {{"a * - ", "", 4}, {"(", ")", 0}}, brackets}
	for _, x := range brackets {
		l = append(l, []wrap{x})
	}
	for _, x := range tight() {
		l = append(l, []wrap{minus, x}, []wrap{minus, minus, x}, []wrap{not, minus, x}, []wrap{last, x}, []wrap{{"a = 1 or not ", "", 9}, not, x})
	}
	for _, x := range loose() {
		l = append(l, []wrap{not, x}, []wrap{last, not, x})
	}
	return l
}

// nested tells an expression within so many forms, taken in turn from the outermost on, and the place of each.
func nested(l []wrap, n int, within string) (s string, places []int) {
	open, shut := "", ""
	for i := range n {
		x := l[i%len(l)]
		places = append(places, len(open)+x.at)
		open, shut = open+x.open, x.shut+shut
	}
	return open + within + shut, places
}

// readable wants a text to be some expression.
func readable(t *testing.T, s string) {
	t.Helper()
	if e, err, at := parse.Expr(s); err != api.OK || at != 0 || e.Op == 0 {
		t.Errorf("Expr(%s) = %s, %d, %d", brief(s), brief(e), err, at)
	}
}

func TestDepth(t *testing.T) { // 19.1
	for _, l := range turns() {
		for _, n := range []int{1, 2, 23, 24} {
			s, _ := nested(l, n, "1")
			readable(t, s)
		}
		for _, n := range []int{25, 26, 40} {
			s, places := nested(l, n, "1")
			wrong(t, s, api.ErrDeep, places[24])
			wrong(t, s+" 1", api.ErrDeep, places[24])
			wrong(t, s+")", api.ErrDeep, places[24])
			wrong(t, s[:places[24]], api.ErrSyntax, places[24])
		}
	}
}

// TestDepthOfMuch: texts as long as may be that go ever deeper.
func TestDepthOfMuch(t *testing.T) { // 19.1, 19.5, W12
	for _, l := range turns() {
		_, places := nested(l, 25, "")
		s := ""
		for i := 0; len(s) < api.MaxText; i++ {
			s += l[i%len(l)].open
		}
		wrong(t, s[:api.MaxText], api.ErrDeep, places[24])
		refused(t, "delete from t where "+s[:4000], api.ErrDeep, 20+places[24])
	}
}

// TestDepthIsOfFormsWithinEachOther: forms beside each other do not count together.
func TestDepthIsOfFormsWithinEachOther(t *testing.T) { // 19.1
	for _, x := range append(tight(), wrap{"- ", "", 0}) {
		full, _ := nested([]wrap{x}, 24, "1")
		deep, places := nested([]wrap{x}, 25, "1")
		for _, s := range []string{" and ", " or ", " + ", " = ", " * ", " || ", " - ", " not in (1) and ", " is null or "} {
			readable(t, full+s+full)
			wrong(t, full+s+deep, api.ErrDeep, len(full)+len(s)+places[24])
			wrong(t, deep+s+full, api.ErrDeep, places[24])
		}
		readable(t, full+" between "+full+" and "+full)
		wrong(t, full+" between "+full+" and "+deep, api.ErrDeep, 2*len(full)+14+places[24])
		wrong(t, full+" between "+deep+" and "+full, api.ErrDeep, len(full)+9+places[24])
		readable(t, full+" is not null")
		readable(t, full+" in (1)")
		half, _ := nested([]wrap{x}, 23, "1")
		readable(t, "f("+half+", "+half+", "+half+")")
		readable(t, half+" in ("+half+", "+half+")")
		readable(t, full+" in ("+half+")")
		wrong(t, half+" in ("+full+")", api.ErrDeep, len(half)+5+places[23])
		wrong(t, "f(1, "+full+")", api.ErrDeep, 5+places[23])
		wrong(t, "not "+full, api.ErrDeep, 4+places[23])
		readable(t, "not "+half+" and "+full)
	}
	for _, s := range []string{"not ", "a and not ", "a or not "} {
		nots := strings.Repeat("not ", 23)
		readable(t, s+nots+"1 and "+s+nots+"1")
		wrong(t, s+nots+"1 and "+s+nots+"not 1", api.ErrDeep, 2*len(s)+2*len(nots)+6)
	}
}

// TestWhatDoesNotCount: signs, names and the words that belong to a sign.
func TestWhatDoesNotCount(t *testing.T) { // 19.1
	nots := strings.Repeat("not ", 24)
	readable(t, nots+"1 - 2 - 3 = 4")
	readable(t, nots+"a.b is not null and not 1")
	readable(t, nots+"1 not between 2 and 3 or not not 1")
	wrong(t, nots+"1 not in (1)", api.ErrDeep, 24*4+9)
	wrong(t, nots+"- 1", api.ErrDeep, 24*4)
	wrong(t, nots+"count(*)", api.ErrDeep, 24*4)
	readable(t, strings.Repeat("(", 24)+"a.b + abs"+strings.Repeat(")", 24))
	readable(t, strings.Repeat("(", 23)+"count(*) + length(a)"+strings.Repeat(")", 23))
	readable(t, strings.Repeat("- ", 24)+"1 - f(2)")
	readable(t, strings.Repeat("1 - ", 1000)+"1")
	readable(t, strings.Repeat("a and ", 600)+"a")
	readable(t, strings.Repeat("a is not null and ", 200)+"a")
	readable(t, strings.Repeat("not a or ", 400)+"a")
	readable(t, strings.Repeat("a * - ", 600)+"a")
	readable(t, strings.Repeat("f(a) + ", 500)+"a")
	readable(t, strings.Repeat("count(*) + ", 300)+"a")
	readable(t, strings.Repeat("a not in (1) or ", 200)+"a")
}

// TestTheFirstFaultFromTheLeft: what does not fit where it stands is no form, and a name is none without its parenthesis; but the words that must begin a call are one already.
func TestTheFirstFaultFromTheLeft(t *testing.T) { // 19.1, 19.2
	for _, x := range []wrap{{"(", ")", 0}, {"f(", ")", 0}, {"- ", "", 0}, {"not ", "", 0}, {"1 in (", ")", 5}} {
		open := strings.Repeat(x.open, 24)
		for _, y := range []string{"(", "- ", "f(", "count", "sum", "min(", "max", "length", "coalesce(", "count(*)", "sum(*)", "f(*)", "f()", "(,", "-)", "length)", "f --x\n(1)", "count a"} {
			wrong(t, open+y, api.ErrDeep, len(open))
			wrong(t, open+y+" ) ) = = b", api.ErrDeep, len(open))
		}
		for _, y := range []string{"", ")", "*", "=", ",", "+ 1", ". a", "in (1)", "is", "select (", "and", "as", ";"} {
			wrong(t, open+y, api.ErrSyntax, len(open))
		}
		for y, at := range map[string]int{"1 (": 2, "a.b(1": 3, "a.(": 2, "a b(": 2, "1 length(": 2, "a = not": 4, "a not (": 6, "a + not": 4, "a in b(": 5, "a in -1": 5, "a is (": 5} {
			wrong(t, open+y, api.ErrSyntax, len(open)+at)
		}
		if x.open == "- " {
			continue // what stands behind a sign lies in the last minus no more
		}
		for y, at := range map[string]int{"a + f(": 4, "a * a + a = a || (": 17, "a = - 1": 4, "a between (": 10, "a between 1 and count": 16, "1 in (": 5, "1 not in (2)": 9} {
			wrong(t, open+y, api.ErrDeep, len(open)+at)
		}
		if x.open == "not " {
			wrong(t, open+"not", api.ErrDeep, len(open))
			readable(t, open+"a and not b")
			continue
		}
		for y, at := range map[string]int{"not": 0, "not =": 0, "a and not b": 6, "a or a and not": 11} {
			wrong(t, open+y, api.ErrDeep, len(open)+at)
		}
	}
	wrong(t, strings.Repeat("(", 24)+"a b"+strings.Repeat("(", 9), api.ErrSyntax, 26)
	wrong(t, "= "+strings.Repeat("(", 30), api.ErrSyntax, 0)
	wrong(t, strings.Repeat("- ", 24)+"not 1", api.ErrSyntax, 48)
}

// TestDepthInStatements: each expression of a statement begins anew, and no parenthesis of the statement's own counts.
func TestDepthInStatements(t *testing.T) { // 19.1, 19.2
	full := strings.Repeat("(", 24) + "1" + strings.Repeat(")", 24)
	deep := "(" + full + ")"
	for _, s := range []string{
		"insert into t values (@)", "insert into t values (1, @), (2, 3)", "insert into t values (1), (@)", "insert into t (a, b) values (@, 1)",
		"update t set a = @", "update t set a = 1, b = @ where c", "update t set a = b where @",
		"delete from t where @;", "select @ from t", "select distinct a, @ as b from t", "explain select 1, @ from t where 1",
		"select * from t join u on @", "select * from t join u on 1 inner join v as w on @ where 1", "select * from t where @ group by a",
		"select * from t group by @", "select * from t group by a, @", "select * from t having @", "select * from t order by @", "select * from t order by a desc, @ asc limit 1",
	} {
		ahead, behind, _ := strings.Cut(s, "@")
		if x, err, at := parse.Statement(ahead + full + behind); err != api.OK || x.Kind == 0 {
			t.Errorf("%q: %d, %d", s, err, at)
		}
		refused(t, ahead+deep+behind, api.ErrDeep, len(ahead)+24)
		refused(t, ahead+deep+behind+" )", api.ErrDeep, len(ahead)+24)
		refused(t, ahead+"1 1 "+deep+behind, api.ErrSyntax, len(ahead)+2)
		refused(t, ahead+full+" 1 "+deep, api.ErrSyntax, len(ahead)+50)
	}
	all := "select @, @ from t join u on @ join u on @ where @ group by @, @ having @ order by @, @"
	if x, err, at := parse.Statement(strings.ReplaceAll(all, "@", full)); err != api.OK || len(x.Order) != 2 {
		t.Error(err, at)
	}
	rows := "insert into t values " + strings.Repeat("("+full+"), ", 60) + "("
	if x, err, at := parse.Statement(rows + full + ")"); err != api.OK || len(x.Rows) != 61 {
		t.Error(err, at)
	}
	refused(t, rows+deep, api.ErrDeep, len(rows)+24)
	refused(t, "("+deep, api.ErrSyntax, 0)
	refused(t, "create table t "+deep, api.ErrSyntax, 16)
	refused(t, "insert into t "+deep, api.ErrSyntax, 15)
	refused(t, "create index i on t "+deep, api.ErrSyntax, 21)
	refused(t, "insert into t values "+deep[1:], api.ErrSyntax, 21+49)
}
