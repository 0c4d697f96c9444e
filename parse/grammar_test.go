package parse_test

import (
	"math/rand"
	"slices"
	"strings"
	"testing"

	"palimpsest/api"
	"palimpsest/lex"
	"palimpsest/parse"
)

// grammar is 19.1 and 19.2 row by row: words in capital letters and signs stand for themselves, N for a name, num and txt for such tokens; what has a rule of its own stands for what that says.
const grammar = `
statement: one | one ;
one: CREATE TABLE N ( cols )
one: DROP TABLE N
one: CREATE INDEX N ON N ( N ) | CREATE UNIQUE INDEX N ON N ( N )
one: DROP INDEX N
one: INSERT INTO N VALUES rows | INSERT INTO N ( names ) VALUES rows
one: UPDATE N SET sets where
one: DELETE FROM N where
one: select | EXPLAIN select
one: BEGIN | COMMIT | ROLLBACK
one: SAVEPOINT N | ROLLBACK TO N | RELEASE N
cols: col | cols , col
col: N type notnull unique primary
type: INT | TEXT | BOOL
notnull: | NOT NULL
unique: | UNIQUE
primary: | PRIMARY KEY
names: N | names , N
rows: row | rows , row
row: ( list )
list: e | list , e
sets: N = e | sets , N = e
where: | WHERE e
select: SELECT items rest | SELECT DISTINCT items rest
rest: FROM ref joins where group having order limit
items: * | some
some: item | some , item
item: e | e AS N
ref: N | N N | N AS N
joins: | joins JOIN ref ON e | joins INNER JOIN ref ON e
group: | GROUP BY list
having: | HAVING e
order: | ORDER BY keys
keys: key | keys , key
key: e | e ASC | e DESC
limit: | LIMIT num | LIMIT num OFFSET num
e: e OR conj | conj
conj: conj AND neg | neg
neg: NOT neg | comp
comp: sum | sum = sum | sum <> sum | sum < sum | sum <= sum | sum > sum | sum >= sum
comp: sum IS NULL | sum IS NOT NULL
comp: sum IN ( list ) | sum NOT IN ( list )
comp: sum BETWEEN sum AND sum | sum NOT BETWEEN sum AND sum
sum: sum + prod | sum - prod | sum || prod | prod
prod: prod * min | prod / min | prod % min | min
min: - min | leaf
leaf: num | txt | TRUE | FALSE | NULL | N | N . N | ( e )
leaf: COUNT ( * ) | COUNT ( e ) | SUM ( e ) | MIN ( e ) | MAX ( e )
leaf: LENGTH ( list ) | COALESCE ( list ) | N ( list )
`

// rules are the grammar's, by what they are of.
type rules struct {
	left  []string
	right [][]string
	of    map[string][]int
	empty map[string]bool // may be nothing
}

func readRules(t *testing.T) *rules {
	r := &rules{of: map[string][]int{}, empty: map[string]bool{}}
	for _, line := range strings.Split(strings.TrimSpace(grammar), "\n") {
		left, right, ok := strings.Cut(line, ":")
		if !ok {
			t.Fatal(line)
		}
		for _, x := range strings.Split(" "+right+" ", " | ") {
			r.of[left] = append(r.of[left], len(r.left))
			r.left = append(r.left, left)
			r.right = append(r.right, strings.Fields(x))
			r.empty[left] = r.empty[left] || strings.TrimSpace(x) == ""
		}
	}
	return r
}

// item is a rule of which dot parts were read, from that place on.
type item struct{ rule, dot, from int }

// chart is what may be under way behind each token, by Earley's way: it goes through all that could be at once.
type chart struct {
	r    *rules
	sets [][]item
}

func begin(r *rules, what string) *chart {
	c := &chart{r: r, sets: [][]item{nil}}
	c.predict(0, what)
	c.close(0)
	return c
}

func (c *chart) add(at int, x item) {
	if !slices.Contains(c.sets[at], x) {
		c.sets[at] = append(c.sets[at], x)
	}
}

func (c *chart) predict(at int, what string) {
	for _, n := range c.r.of[what] {
		c.add(at, item{n, 0, at})
	}
}

// wants tells the part that an item goes on with; nothing, if it is whole.
func (c *chart) wants(x item) string {
	if x.dot == len(c.r.right[x.rule]) {
		return ""
	}
	return c.r.right[x.rule][x.dot]
}

func (c *chart) close(at int) {
	for i := 0; i < len(c.sets[at]); i++ {
		x := c.sets[at][i]
		w := c.wants(x)
		if w == "" {
			for _, y := range slices.Clone(c.sets[x.from]) {
				if c.wants(y) == c.r.left[x.rule] {
					c.add(at, item{y.rule, y.dot + 1, y.from})
				}
			}
			continue
		}
		c.predict(at, w)
		if c.r.empty[w] {
			c.add(at, item{x.rule, x.dot + 1, x.from})
		}
	}
}

func stands(part string, t api.Token) bool {
	switch part {
	case "N":
		return t.Kind == api.KWord && lex.Name(t.Text)
	case "num":
		return t.Kind == api.KInt
	case "txt":
		return t.Kind == api.KText
	}
	return (t.Kind == api.KWord || t.Kind == api.KSign) && strings.ToUpper(t.Text) == part
}

// fits tells whether a token may come next.
func (c *chart) fits(t api.Token) bool {
	for _, x := range c.sets[len(c.sets)-1] {
		if w := c.wants(x); w != "" && c.r.of[w] == nil && stands(w, t) {
			return true
		}
	}
	return false
}

// step reads a token that fits.
func (c *chart) step(t api.Token) {
	last, at := c.sets[len(c.sets)-1], len(c.sets)
	c.sets = append(c.sets, nil)
	for _, x := range last {
		if w := c.wants(x); w != "" && c.r.of[w] == nil && stands(w, t) {
			c.add(at, item{x.rule, x.dot + 1, x.from})
		}
	}
	c.close(at)
}

// whole tells whether all that was read is one of what.
func (c *chart) whole(what string) bool {
	for _, x := range c.sets[len(c.sets)-1] {
		if c.wants(x) == "" && x.from == 0 && c.r.left[x.rule] == what {
			return true
		}
	}
	return false
}

// tokens are one of each that a statement may have, and some that it may not.
func tokens() []string {
	return append(reserved(), strings.Fields("a abs x_1 0 1 'x' 'select' ( ) , . * + - / % = < > <> <= >= || ;")...)
}

// walk goes on with a text by tokens that fit, and holds what is answered behind each token, fitting or not, against the grammar.
func walk(t *testing.T, g *rand.Rand, r *rules, what string, steps int, read func(s string) (api.Errno, int)) int {
	s, c, wholes := "", begin(r, what), 0
	for range steps {
		var fit []string
		for _, x := range tokens() {
			l, _, _ := lex.Words(x)
			err, at := read(s + x)
			if err == api.ErrDeep {
				return wholes
			}
			if !c.fits(l[0]) {
				if err != api.ErrSyntax || at != len(s) {
					t.Fatalf("%q: %d, %d, want %d, %d", s+x, err, at, api.ErrSyntax, len(s))
				}
				continue
			}
			fit = append(fit, x)
			if err != api.OK && (err != api.ErrSyntax || at != len(s+x)) {
				t.Fatalf("%q: %d, %d, but it could go on", s+x, err, at)
			}
		}
		if err, at := read(s); (err == api.OK) != c.whole(what) || err != api.OK && (err != api.ErrSyntax || at != len(s)) {
			t.Fatalf("%q: %d, %d; whole is %v", s, err, at, c.whole(what))
		}
		if c.whole(what) {
			wholes++
		}
		if len(fit) == 0 {
			break
		}
		x := fit[g.Intn(len(fit))]
		l, _, _ := lex.Words(x)
		c.step(l[0])
		s += x + " "
	}
	return wholes
}

// TestGrammar: behind whatever has fit so far just those tokens fit that the chapter's rows let follow.
func TestGrammar(t *testing.T) { // 19.1, 19.2
	r, g := readRules(t), rand.New(rand.NewSource(6))
	statement := func(s string) (api.Errno, int) {
		_, err, at := parse.Statement(s)
		return err, at
	}
	wholes := 0
	for range 250 {
		wholes += walk(t, g, r, "statement", 40, statement)
	}
	expr := func(s string) (api.Errno, int) {
		_, err, at := parse.Expr(s)
		return err, at
	}
	for range 100 {
		wholes += walk(t, g, r, "e", 30, expr)
	}
	if wholes < 400 {
		t.Errorf("%d texts were whole", wholes)
	}
}

// TestGrammarOfEachStatement: the same along statements that have all clauses.
func TestGrammarOfEachStatement(t *testing.T) { // 19.2
	r := readRules(t)
	for _, s := range []string{
		"create table t ( a int not null unique primary key , b text not null , c bool unique primary key ) ;",
		"create unique index i on t ( a ) ;", "create index i on t ( a ) ;", "drop table t ;", "drop index i ;",
		"insert into t ( a , b ) values ( 1 , a ) , ( 'x' , - 2 ) ;", "update t set a = 1 , b = c where d ;", "delete from t where not a in ( 1 ) ;",
		"explain select distinct a as b , count ( * ) from t as u join v on a inner join w x on b where c group by a , t . b having c between 1 and 2 order by a asc , b desc , c limit 1 offset 2 ;",
		"select * from t u limit 0 ;", "begin ;", "commit ;", "rollback ;", "savepoint s ;", "rollback to s ;", "release s ;",
	} {
		c, ahead := begin(r, "statement"), ""
		for _, x := range strings.Fields(s) {
			for _, y := range tokens() {
				l, _, _ := lex.Words(y)
				_, err, at := parse.Statement(ahead + y)
				if fits := c.fits(l[0]); fits != (err == api.OK || at > len(ahead)) || err != api.OK && err != api.ErrSyntax {
					t.Errorf("%q: %d, %d; fits is %v", ahead+y, err, at, fits)
				}
			}
			_, err, _ := parse.Statement(ahead)
			if (err == api.OK) != c.whole("statement") {
				t.Errorf("%q: %d", ahead, err)
			}
			l, _, _ := lex.Words(x)
			if !c.fits(l[0]) {
				t.Fatalf("%q does not fit behind %q", x, ahead)
			}
			c.step(l[0])
			ahead += x + " "
		}
		if !c.whole("statement") {
			t.Errorf("%q is not whole", s)
		}
	}
}
