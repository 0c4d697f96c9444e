package parse_test

import (
	"math"
	"math/rand"
	"reflect"
	"strconv"
	"strings"
	"testing"

	"palimpsest/api"
	"palimpsest/parse"
)

// maker makes trees, and the tokens that must be read as these.
type maker struct{ *rand.Rand }

func (m maker) one(l ...string) string { return l[m.Intn(len(l))] }

func (m maker) name() string {
	return m.one("a", "b", "t", "abs", "x_1", "_", "selects", strings.Repeat("z", 32))
}

func (m maker) names() []string {
	l := []string{m.name()}
	for m.Intn(2) == 0 {
		l = append(l, m.name())
	}
	return l
}

func (m maker) exprs() []api.Expr {
	l := []api.Expr{m.expr(2)}
	for m.Intn(2) == 0 {
		l = append(l, m.expr(2))
	}
	return l
}

func (m maker) leaf() api.Expr {
	switch m.Intn(8) {
	case 0:
		return num([]int{0, 1, 7, 1 << 40, math.MaxInt}[m.Intn(5)])
	case 1:
		return text(m.one("", "it's", "--", "(", "\x00\xFF", "select"))
	case 2:
		return truth(m.Intn(2) == 0)
	case 3:
		return null()
	case 4:
		return of(m.name(), m.name())
	case 5:
		return star()
	}
	return name(m.name())
}

// expr makes an expression of at most so many forms within each other.
func (m maker) expr(depth int) api.Expr {
	if depth == 0 || m.Intn(6) == 0 {
		return m.leaf()
	}
	kids := func(n int) []api.Expr {
		var l []api.Expr
		for range n {
			l = append(l, m.expr(depth-1))
		}
		return l
	}
	switch m.Intn(12) {
	case 0:
		return op(api.XNot, kids(1)...)
	case 1:
		return op(api.XNeg, kids(1)...)
	case 2:
		return api.Expr{Op: api.XIsNull, Not: m.Intn(2) == 0, Kids: kids(1)}
	case 3:
		return api.Expr{Op: api.XIn, Not: m.Intn(2) == 0, Kids: kids(2 + m.Intn(3))}
	case 4:
		return api.Expr{Op: api.XBetween, Not: m.Intn(2) == 0, Kids: kids(3)}
	case 5:
		return call(m.one("length", "coalesce", m.name()), kids(1+m.Intn(3))...)
	case 6:
		return agg(m.one("count", "sum", "min", "max"), m.expr(depth-1))
	}
	x := signs()[m.Intn(len(signs()))]
	return op(x.op, kids(2)...)
}

// tokens spells an expression where one of that strength must stand: with the parentheses that it must have, and now and then with more.
func (m maker) tokens(e api.Expr, strength int) []string {
	l, own := m.plain(e)
	if own < strength || m.Intn(12) == 0 {
		return join("(", l, ")")
	}
	return l
}

// join puts words and lists of them one behind the other.
func join(parts ...any) []string {
	var l []string
	for _, p := range parts {
		switch x := p.(type) {
		case string:
			l = append(l, strings.Fields(x)...)
		case []string:
			l = append(l, x...)
		}
	}
	return l
}

// commas spells a list.
func commas[T any](l []T, spell func(x T) []string) []string {
	var w []string
	for i, x := range l {
		if i > 0 {
			w = append(w, ",")
		}
		w = append(w, spell(x)...)
	}
	return w
}

func (m maker) list(l []api.Expr) []string {
	return commas(l, func(e api.Expr) []string { return m.tokens(e, 0) })
}

// plain spells an expression without parentheses around it, and tells its strength.
func (m maker) plain(e api.Expr) ([]string, int) {
	kid := func(i, strength int) []string { return m.tokens(e.Kids[i], strength) }
	not := ""
	if e.Not {
		not = "not"
	}
	for _, x := range signs() {
		switch {
		case x.op != e.Op:
		case x.strength == 4:
			return join(kid(0, 5), x.text, kid(1, 5)), 4
		default:
			return join(kid(0, x.strength), x.text, kid(1, x.strength+1)), x.strength
		}
	}
	switch e.Op {
	case api.XNot:
		return join("not", kid(0, 3)), 3
	case api.XNeg:
		return join("-", kid(0, 7)), 7
	case api.XIsNull:
		return join(kid(0, 5), "is", not, "null"), 4
	case api.XIn:
		return join(kid(0, 5), not, "in (", m.list(e.Kids[1:]), ")"), 4
	case api.XBetween:
		return join(kid(0, 5), not, "between", kid(1, 5), "and", kid(2, 5)), 4
	case api.XCall:
		return join(e.Name, "(", m.list(e.Kids), ")"), 8
	case api.XAgg:
		if e.Star {
			return join("count ( * )"), 8
		}
		return join(e.Name, "(", m.list(e.Kids), ")"), 8
	case api.XName:
		if e.Table != "" {
			return join(e.Table, ".", e.Name), 8
		}
		return []string{e.Name}, 8
	}
	return []string{value(e.V)}, 8
}

func value(v api.Value) string {
	switch v.Type {
	case api.TInt:
		return strconv.Itoa(v.Int)
	case api.TText:
		return "'" + strings.ReplaceAll(v.Text, "'", "''") + "'"
	case api.TBool:
		return strconv.FormatBool(v.Bool)
	}
	return "null"
}

// written tells tokens as a text: words in either case, and white or remarks between.
func (m maker) written(l []string) string {
	var b strings.Builder
	gaps := []string{" ", "\n", "\t \r", " --it's ! x\n", " ", " "}
	for _, x := range l {
		if !strings.HasPrefix(x, "'") && m.Intn(2) == 0 {
			x = strings.ToUpper(x)
		}
		b.WriteString(m.one(gaps...) + x)
	}
	return b.String() + m.one("", " ", " --", "\n")
}

func TestExpressionsThereAndBack(t *testing.T) { // 19.1, 19.4, W7
	m := maker{rand.New(rand.NewSource(7))}
	read := 0
	for n := range 20000 {
		e := m.expr(n % 6)
		s := m.written(m.tokens(e, 0))
		if len(s) > api.MaxText {
			continue
		}
		read++
		reads(t, s, e)
		comesBack(t, e)
		if t.Failed() {
			t.FailNow()
		}
	}
	if read < 18000 {
		t.Errorf("%d texts were read", read)
	}
}

// cols makes a table's columns, and tells their tokens.
func (m maker) cols() ([]api.Col, []string) {
	var l []api.Col
	for range 1 + m.Intn(4) {
		l = append(l, api.Col{Name: m.name(), Type: 1 + m.Intn(3), NotNull: m.Intn(2) == 0, Unique: m.Intn(2) == 0})
	}
	return l, commas(l, func(c api.Col) []string {
		w := join(c.Name, []string{"int", "text", "bool"}[c.Type-1])
		key := c.NotNull && c.Unique && m.Intn(2) == 0
		if c.NotNull && (!key || m.Intn(2) == 0) {
			w = join(w, "not null")
		}
		if c.Unique && (!key || m.Intn(2) == 0) {
			w = join(w, "unique")
		}
		if key {
			w = join(w, "primary key")
		}
		return w
	})
}

// where makes a clause that may be left out.
func (m maker) where(word string) (e api.Expr, l []string) {
	if m.Intn(2) == 0 {
		e = m.expr(3)
		l = join(word, m.tokens(e, 0))
	}
	return e, l
}

func (m maker) create() (api.Stmt, []string) {
	s := api.Stmt{Kind: 1 + m.Intn(4)}
	switch s.Kind {
	case api.SCreate:
		cols, l := m.cols()
		s.Table, s.Cols = m.name(), cols
		return s, join("create table", s.Table, "(", l, ")")
	case api.SDrop:
		s.Table = m.name()
		return s, join("drop table", s.Table)
	case api.SIndex:
		s.Name, s.Table, s.Column, s.Unique = m.name(), m.name(), m.name(), m.Intn(2) == 0
		unique := ""
		if s.Unique {
			unique = "unique"
		}
		return s, join("create", unique, "index", s.Name, "on", s.Table, "(", s.Column, ")")
	}
	s.Name = m.name()
	return s, join("drop index", s.Name)
}

func (m maker) change() (api.Stmt, []string) {
	s := api.Stmt{Kind: 5 + m.Intn(3), Table: m.name()}
	plain := func(n string) []string { return []string{n} }
	switch s.Kind {
	case api.SInsert:
		var columns []string
		if m.Intn(2) == 0 {
			s.Columns = m.names()
			columns = join("(", commas(s.Columns, plain), ")")
		}
		for range 1 + m.Intn(3) {
			s.Rows = append(s.Rows, m.exprs())
		}
		return s, join("insert into", s.Table, columns, "values", commas(s.Rows, func(r []api.Expr) []string { return join("(", m.list(r), ")") }))
	case api.SUpdate:
		s.Columns = m.names()
		for range s.Columns {
			s.Sets = append(s.Sets, m.expr(3))
		}
		i := -1
		sets := commas(s.Sets, func(e api.Expr) []string {
			i++
			return join(s.Columns[i], "=", m.tokens(e, 0))
		})
		where, l := m.where("where")
		s.Where = where
		return s, join("update", s.Table, "set", sets, l)
	}
	where, l := m.where("where")
	s.Where = where
	return s, join("delete from", s.Table, l)
}

func (m maker) ref() (api.Ref, []string) {
	r := api.Ref{Table: m.name()}
	r.Alias = r.Table
	if m.Intn(2) == 0 {
		return r, []string{r.Table}
	}
	r.Alias = m.name()
	return r, join(r.Table, m.one("", "as"), r.Alias)
}

func (m maker) from() ([]api.Ref, []string) {
	r, w := m.ref()
	l := []api.Ref{r}
	for m.Intn(2) == 0 {
		x, own := m.ref()
		x.On = m.expr(2)
		l = append(l, x)
		w = join(w, m.one("", "inner"), "join", own, "on", m.tokens(x.On, 0))
	}
	return l, w
}

func (m maker) items() ([]api.Item, []string) {
	if m.Intn(4) == 0 {
		return []api.Item{{Star: true}}, []string{"*"}
	}
	var l []api.Item
	for _, e := range m.exprs() {
		l = append(l, api.Item{E: e})
		if m.Intn(2) == 0 {
			l[len(l)-1].As = m.name()
		}
	}
	return l, commas(l, func(i api.Item) []string {
		if i.As == "" {
			return m.tokens(i.E, 0)
		}
		return join(m.tokens(i.E, 0), "as", i.As)
	})
}

func (m maker) query() (api.Stmt, []string) {
	s := api.Stmt{Kind: api.SSelect, Limit: -1, Explain: m.Intn(2) == 0, Distinct: m.Intn(2) == 0}
	w := []string{"select"}
	if s.Explain {
		w = join("explain select")
	}
	if s.Distinct {
		w = join(w, "distinct")
	}
	var l []string
	s.Items, l = m.items()
	w = join(w, l, "from")
	s.From, l = m.from()
	w = join(w, l)
	s.Where, l = m.where("where")
	w = join(w, l)
	if m.Intn(2) == 0 {
		s.Group = m.exprs()
		w = join(w, "group by", m.list(s.Group))
	}
	s.Having, l = m.where("having")
	w = join(w, l)
	if m.Intn(2) == 0 {
		for _, e := range m.exprs() {
			s.Order = append(s.Order, api.Order{E: e, Desc: m.Intn(2) == 0})
		}
		w = join(w, "order by", commas(s.Order, func(o api.Order) []string {
			if o.Desc {
				return join(m.tokens(o.E, 0), "desc")
			}
			return join(m.tokens(o.E, 0), m.one("", "asc"))
		}))
	}
	if m.Intn(2) == 0 {
		s.Limit = []int{0, 1, math.MaxInt}[m.Intn(3)]
		w = join(w, "limit", strconv.Itoa(s.Limit))
		if m.Intn(2) == 0 {
			s.Offset = []int{0, 1, math.MaxInt}[m.Intn(3)]
			w = join(w, "offset", strconv.Itoa(s.Offset))
		}
	}
	return s, w
}

func (m maker) statement() (api.Stmt, []string) {
	switch m.Intn(6) {
	case 0:
		return m.create()
	case 1, 2:
		return m.change()
	case 3:
		n := m.Intn(6)
		s := api.Stmt{Kind: api.SBegin + n}
		l := strings.Fields([]string{"begin", "commit", "rollback", "savepoint", "rollback to", "release"}[n])
		if n > 2 {
			s.Name = m.name()
			l = append(l, s.Name)
		}
		return s, l
	}
	return m.query()
}

// TestStatementsThereAndBack: statements of all kinds are read as what they were written from; where one is cut short, just there it is wrong.
func TestStatementsThereAndBack(t *testing.T) { // 19.2
	m := maker{rand.New(rand.NewSource(8))}
	kinds := map[int]int{}
	for range 20000 {
		s, l := m.statement()
		x := m.written(append(l, m.one("", ";")))
		if len(x) > api.MaxText {
			continue
		}
		kinds[s.Kind]++
		states(t, x, s)
		if t.Failed() {
			t.FailNow()
		}
		cut := m.written(l[:m.Intn(len(l))])
		if y, err, at := parse.Statement(cut); err != api.OK && (err != api.ErrSyntax || at != len(cut) || !reflect.DeepEqual(y, api.Stmt{})) {
			t.Fatalf("Statement(%q): %d, %d", cut, err, at)
		}
	}
	for n := api.SCreate; n <= api.SRelease; n++ {
		if kinds[n] < 200 {
			t.Errorf("%d of kind %d", kinds[n], n)
		}
	}
}
