package bind_test

import (
	"reflect"
	"strings"
	"testing"

	"palimpsest/api"
	"palimpsest/bind"
	"palimpsest/parse"
)

// What follows is a second reading of 20.2. The first fault ends it.

func must(ok bool, reason api.Errno) {
	if !ok {
		panic(reason)
	}
}

func secondStmt(s api.Stmt, l []api.Table) (x api.Stmt, err api.Errno) {
	defer func() {
		if fault := recover(); fault != nil {
			x, err = api.Stmt{}, fault.(api.Errno)
		}
	}()
	known := map[string]api.Table{}
	indexes := map[string]bool{}
	for _, t := range l {
		known[t.Name] = t
		for _, i := range t.Indexes {
			indexes[i.Name] = true
		}
	}
	t, there := known[s.Table]
	switch s.Kind {
	case api.SCreate:
		seen := map[string]bool{}
		for _, c := range s.Cols {
			seen[c.Name] = true
		}
		must(!there && len(seen) == len(s.Cols) && len(s.Cols) >= 1 && len(s.Cols) <= 8 && len(l) <= 15, api.ErrName)
	case api.SDrop:
		must(there, api.ErrName)
	case api.SIndex:
		seen := map[string]bool{}
		for _, c := range t.Cols {
			seen[c.Name] = true
		}
		must(there && seen[s.Column] && len(t.Indexes) <= 3 && !indexes[s.Name], api.ErrName)
	case api.SDropIndex:
		must(indexes[s.Name], api.ErrName)
	case api.SInsert:
		must(there, api.ErrName)
		return secondInsert(s, t), api.OK
	case api.SUpdate:
		must(there, api.ErrName)
		return secondUpdate(s, t), api.OK
	case api.SDelete:
		must(there, api.ErrName)
		return api.Stmt{Kind: s.Kind, Table: s.Table, Where: clause(s.Where, places([]api.Table{t}, []string{t.Name}), false)}, api.OK
	case api.SSelect:
		return secondSelect(s, known), api.OK
	default:
		must(s.Kind > api.SSelect && s.Kind <= api.SRelease, api.ErrArg)
	}
	return s, api.OK
}

// typed binds an expression that must be of a type.
func typed(e api.Expr, l []place, aggs bool, kinds set) api.Expr {
	x, k, err := second(e, l, aggs)
	must(err == api.OK, err)
	must(k == all || k == kinds, api.ErrType)
	return x
}

func clause(e api.Expr, l []place, aggs bool) api.Expr {
	if e.Op == 0 {
		return api.Expr{}
	}
	return typed(e, l, aggs, truths)
}

func wanted(columns []string, t api.Table) (l []set) {
	seen := map[string]bool{}
	for _, s := range columns {
		must(!seen[s], api.ErrName)
		seen[s] = true
		var found []set
		for _, c := range t.Cols {
			if c.Name == s {
				found = append(found, 1<<c.Type) // of type 0: only what can only be null
			}
		}
		must(len(found) > 0, api.ErrName)
		l = append(l, found[0])
	}
	return l
}

func secondInsert(s api.Stmt, t api.Table) api.Stmt {
	x := api.Stmt{Kind: s.Kind, Table: s.Table, Columns: s.Columns}
	if len(s.Columns) == 0 {
		x.Columns = nil
		for _, c := range t.Cols {
			x.Columns = append(x.Columns, c.Name)
		}
	}
	l := wanted(x.Columns, t)
	for _, row := range s.Rows {
		must(len(row) == len(l), api.ErrType)
		var y []api.Expr
		for i, e := range row {
			y = append(y, typed(e, nil, false, l[i]))
		}
		x.Rows = append(x.Rows, y)
	}
	return x
}

func secondUpdate(s api.Stmt, t api.Table) api.Stmt {
	x := api.Stmt{Kind: s.Kind, Table: s.Table, Columns: s.Columns}
	l, p := wanted(s.Columns, t), places([]api.Table{t}, []string{t.Name})
	must(len(l) > 0, api.ErrName)
	must(len(l) == len(s.Sets), api.ErrType)
	for i, e := range s.Sets {
		x.Sets = append(x.Sets, typed(e, p, false, l[i]))
	}
	x.Where = clause(s.Where, p, false)
	return x
}

func secondSelect(s api.Stmt, known map[string]api.Table) api.Stmt {
	x := api.Stmt{Kind: s.Kind, Explain: s.Explain, Distinct: s.Distinct, Limit: s.Limit, Offset: s.Offset}
	var from []api.Table
	var names []string
	seen := map[string]bool{}
	for _, r := range s.From {
		t, there := known[r.Table]
		must(there && !seen[r.Alias], api.ErrName)
		from, names, seen[r.Alias] = append(from, t), append(names, r.Alias), true
	}
	must(len(from) <= 4, api.ErrName)
	for i, r := range s.From {
		if i == 0 {
			r.On = api.Expr{}
		}
		x.From = append(x.From, api.Ref{Table: r.Table, Alias: r.Alias, On: clause(r.On, places(from[:i+1], names[:i+1]), false)})
	}
	p := places(from, names)
	x.Where = clause(s.Where, p, false)
	for _, e := range s.Group {
		must(e.Op == api.XName || e.Op == api.XCol, api.ErrAgg)
		g, _, err := second(e, p, false)
		must(err == api.OK, err)
		x.Group = append(x.Group, g)
	}
	for _, it := range s.Items {
		x.Items = append(x.Items, secondItem(it, p)...)
	}
	x.Having = clause(s.Having, p, true)
	for _, o := range s.Order {
		x.Order = append(x.Order, api.Order{E: secondOrder(o.E, x.Items, p), Desc: o.Desc})
	}
	secondChecks(x)
	return x
}

func secondItem(it api.Item, p []place) (l []api.Item) {
	if it.Star {
		for _, c := range p {
			l = append(l, api.Item{E: col(c.t, c.c), As: it.As, Name: c.name})
		}
		return l
	}
	e, _, err := second(it.E, p, true)
	must(err == api.OK, err)
	n := it.As
	if n == "" && (it.E.Op == api.XName || it.E.Op == api.XAgg || it.E.Op == api.XCall) {
		n = it.E.Name
	} else if n == "" {
		n = "?"
	}
	return []api.Item{{E: e, As: it.As, Name: n}}
}

func secondOrder(e api.Expr, items []api.Item, p []place) api.Expr {
	if e.Op == api.XName && len(e.Kids) == 0 && e.Table == "" {
		for _, it := range items {
			if it.As != "" && it.As == e.Name {
				return it.E
			}
		}
	}
	x, _, err := second(e, p, true)
	must(err == api.OK, err)
	return x
}

// outer tells which columns stand outside of aggregates, and whether there is one of these.
func outer(e api.Expr) (cols map[[2]int]bool, aggs bool) {
	cols = map[[2]int]bool{}
	switch e.Op {
	case api.XCol:
		cols[[2]int{e.T, e.C}] = true
	case api.XAgg:
		return cols, true
	}
	for _, k := range e.Kids {
		l, agg := outer(k)
		aggs = aggs || agg
		for c := range l {
			cols[c] = true
		}
	}
	return cols, aggs
}

func secondChecks(x api.Stmt) {
	told := api.Expr{Kids: []api.Expr{}}
	items := map[string]bool{}
	for _, it := range x.Items {
		told.Kids = append(told.Kids, it.E)
		items[parse.Text(it.E)] = true
	}
	for _, o := range x.Order {
		told.Kids = append(told.Kids, o.E)
	}
	cols, aggs := outer(told)
	if having, _ := outer(x.Having); aggs || x.Having.Op != 0 || len(x.Group) > 0 {
		for c := range having {
			cols[c] = true
		}
		for _, g := range x.Group {
			delete(cols, [2]int{g.T, g.C})
		}
		must(len(cols) == 0, api.ErrAgg)
	}
	for _, o := range x.Order {
		must(!x.Distinct || items[parse.Text(o.E)], api.ErrAgg)
	}
}

// stmt makes a statement over these tables.
func (m maker) stmt(l []api.Table) api.Stmt {
	t := one(m, l...)
	s := api.Stmt{Kind: one(m, api.SInsert, api.SUpdate, api.SDelete, api.SSelect, api.SSelect, api.SSelect, api.SSelect, m.Intn(16)), Table: t.Name, Name: one(m, "it", "ju", "kv", "iw"), Column: one(m, "a", "b", "c", "d"), Limit: m.Intn(4) - 1, Offset: m.Intn(2), Explain: m.rarely(3)}
	if m.rarely(20) {
		s.Table = one(m, "t", "u", "z")
	}
	sloppy := one(m, 0, 0, 30, 100)
	switch s.Kind {
	case api.SCreate:
		s.Table = one(m, "t", "u", "y", "z")
		for range m.Intn(11) {
			s.Cols = append(s.Cols, api.Col{Name: one(m, "a", "b", "c", "d", "e", "f", "g", "h", "i", "j", "k", "l", "m", "n", "o", "p"), Type: m.Intn(5)})
		}
	case api.SInsert, api.SUpdate:
		m.fill(&s, t, sloppy)
	case api.SDelete:
		s.Where = m.clause(scope{places([]api.Table{t}, []string{t.Name}), false, sloppy})
	case api.SSelect:
		m.query(&s, l, sloppy)
	}
	return s
}

// clause makes one that may be left out.
func (m maker) clause(s scope) api.Expr {
	switch m.Intn(6) {
	case 0:
		return api.Expr{Name: one(m, "", "a"), Star: m.rarely(2), Kids: leaves()[:m.Intn(3)]}
	case 1, 2:
		return api.Expr{}
	}
	s.aggs = s.aggs || m.rarely(20)
	return m.expr(s, api.TBool, 2)
}

func (m maker) fill(s *api.Stmt, t api.Table, sloppy int) {
	var kinds []int
	for _, c := range t.Cols {
		if m.Intn(5) < 3 {
			s.Columns = append(s.Columns, c.Name)
			kinds = append(kinds, c.Type)
		}
	}
	if sloppy > 0 && m.rarely(6) {
		s.Columns = append(s.Columns, one(m, "a", "b", "z"))
		kinds = append(kinds, 0)
	}
	if s.Columns == nil {
		for _, c := range t.Cols {
			kinds = append(kinds, c.Type)
		}
	}
	in := scope{sloppy: sloppy, aggs: m.rarely(20)}
	if s.Kind == api.SUpdate {
		in.places = places([]api.Table{t}, []string{t.Name})
	}
	row := func() (l []api.Expr) {
		for _, kind := range kinds {
			l = append(l, m.expr(in, min(kind, 4), 2))
		}
		if sloppy > 0 && m.rarely(30) {
			l = append(l, null())
		}
		return l
	}
	if s.Kind == api.SUpdate {
		s.Sets, s.Where = row(), m.clause(in)
		return
	}
	for range m.Intn(4) {
		s.Rows = append(s.Rows, row())
	}
}

func (m maker) query(s *api.Stmt, l []api.Table, sloppy int) {
	var from []api.Table
	var names []string
	n := 1 + m.Intn(3)
	if m.rarely(20) {
		n = m.Intn(6)
	}
	for i := range n {
		t := one(m, l...)
		from, names = append(from, t), append(names, one(m, []string{"p", "q", "r", "s", "x"}[i], []string{"p", "q", "r", "s", "x"}[i], t.Name))
		r := api.Ref{Table: t.Name, Alias: names[i]}
		if i > 0 || m.rarely(9) {
			r.On = m.clause(scope{places(from, names), false, sloppy})
		}
		if sloppy > 0 && m.rarely(40) {
			r.Table = "z"
		}
		s.From = append(s.From, r)
	}
	in := scope{places(from, names), false, sloppy}
	s.Where = m.clause(in)
	out := in
	if out.aggs = m.rarely(3); out.aggs && len(in.places) > 0 {
		out.places = nil
		for range m.Intn(5) {
			p := one(m, in.places...)
			out.places = append(out.places, p)
			s.Group = append(s.Group, one(m, of(p.table, p.name), of(p.table, p.name), name(p.name)))
		}
		if m.rarely(9) {
			s.Group = append(s.Group, m.any(in, 1))
		}
		if m.rarely(3) {
			s.Having = m.clause(out)
		}
		if m.rarely(5) {
			out.places = in.places
		}
	}
	s.Distinct = m.rarely(3)
	m.told(s, out)
}

func (m maker) told(s *api.Stmt, in scope) {
	for range 1 + m.Intn(3) {
		it := api.Item{Star: m.rarely(9), As: one(m, "", "", "a", "n", "m")}
		if !it.Star || m.rarely(3) {
			it.E = m.expr(in, m.Intn(4), 2)
		}
		s.Items = append(s.Items, it)
	}
	for range m.Intn(3) {
		o := api.Order{E: m.expr(in, m.Intn(4), 1), Desc: m.rarely(2)}
		switch m.Intn(4) {
		case 0:
			o.E = name(one(m, "a", "n", "m"))
		case 1, 2:
			o.E = one(m, s.Items...).E
		}
		s.Order = append(s.Order, o)
	}
}

// madeOf makes so many statements, each over tables of its own, and asks for each.
func madeOf(seed int64, n int, ask func(s api.Stmt, l []api.Table)) {
	m := maker{newRand(seed)}
	for range n {
		l := m.tables()
		ask(m.stmt(l), l)
	}
}

// TestSecondReading: statements of all kinds, right ones and wrong ones.
func TestSecondReading(t *testing.T) { // 20.1, 20.2
	type outcome struct {
		kind int
		err  api.Errno
	}
	seen := map[outcome]int{}
	madeOf(21, 60000, func(s api.Stmt, l []api.Table) {
		want, reason := secondStmt(s, l)
		x, err := bind.Statement(s, l)
		if err != reason || !reflect.DeepEqual(x, want) {
			t.Fatalf("Statement(%s, %s) = %s, %d; want %s, %d", brief(s), brief(l), brief(x), err, brief(want), reason)
		}
		seen[outcome{s.Kind, err}]++
	})
	for _, kind := range []int{api.SInsert, api.SUpdate, api.SDelete, api.SSelect} {
		for _, err := range []api.Errno{api.OK, api.ErrName, api.ErrType, api.ErrAgg, api.ErrArg} {
			if n := seen[outcome{kind, err}]; n < 20 {
				t.Errorf("only %d of kind %d are %d", n, kind, err)
			}
		}
	}
	for kind := api.SCreate; kind <= api.SRelease; kind++ {
		if seen[outcome{kind, api.OK}] < 40 {
			t.Errorf("only %d of kind %d are right", seen[outcome{kind, api.OK}], kind)
		}
	}
}

// exprsOf tells a statement's expressions, and how many tables each may name.
func exprsOf(s api.Stmt) (l []api.Expr, tables []int) {
	n := max(len(s.From), 1)
	add := func(n int, e ...api.Expr) {
		for _, e := range e {
			if e.Op != 0 {
				l, tables = append(l, e), append(tables, n)
			}
		}
	}
	for _, r := range s.Rows {
		add(0, r...)
	}
	for i, r := range s.From {
		add(i+1, r.On)
	}
	for _, x := range s.Items {
		add(n, x.E)
	}
	for _, o := range s.Order {
		add(n, o.E)
	}
	add(n, append([]api.Expr{s.Where, s.Having}, append(s.Sets, s.Group...)...)...)
	return l, tables
}

// placed wants an expression to name no columns but by places that are there.
func placed(t *testing.T, e api.Expr, from []api.Table) {
	t.Helper()
	if e.Op == api.XName || e.Op == api.XCol && (e.T < 0 || e.T >= len(from) || e.C < 0 || e.C >= len(from[e.T].Cols)) {
		t.Fatalf("%s is bound over %s", brief(e), brief(from))
	}
	for _, k := range e.Kids {
		placed(t, k, from)
	}
}

// TestBoundAgain: what is bound names columns that are there, and is bound again as what it is, unless it names one.
func TestBoundAgain(t *testing.T) { // 20.4
	names, same := 0, 0
	madeOf(22, 60000, func(s api.Stmt, l []api.Table) {
		x, err := bind.Statement(s, l)
		if err != api.OK || s.Kind < api.SInsert || s.Kind > api.SSelect {
			return
		}
		from := []api.Table{{}}
		if s.Kind == api.SSelect {
			from = nil
		}
		for _, t := range l {
			if s.Kind != api.SSelect && t.Name == s.Table {
				from[0] = t
			}
		}
		for _, r := range s.From {
			for _, t := range l {
				if t.Name == r.Table {
					from = append(from, t)
				}
			}
		}
		exprs, n := exprsOf(x)
		text := ""
		for i, e := range exprs {
			placed(t, e, from[:min(n[i], len(from))])
			text += parse.Text(e)
		}
		y, err := bind.Statement(x, l)
		if strings.Contains(text, "#") {
			names++
			if err != api.ErrArg || !reflect.DeepEqual(y, api.Stmt{}) {
				t.Fatalf("%s bound again is %s, %d", brief(x), brief(y), err)
			}
			return
		}
		same++
		if err != api.OK || !reflect.DeepEqual(y, x) {
			t.Fatalf("%s bound again is %s, %d", brief(x), brief(y), err)
		}
	})
	if names < 5000 || same < 5000 {
		t.Errorf("%d with names, %d without", names, same)
	}
	m := maker{newRand(23)}
	for range 20000 {
		from := m.tables()
		names := []string{"t", "u", "v", "w"}[:len(from)]
		e, kind, err := bind.Expr(m.expr(scope{places(from, names), true, 0}, m.Intn(4), 3), from, names, true)
		if err != api.OK {
			continue
		}
		placed(t, e, from)
		again, k, err := bind.Expr(e, from, names, true)
		if strings.Contains(parse.Text(e), "#") {
			if err != api.ErrArg || k != 0 || again.Op != 0 {
				t.Fatalf("%s bound again is %s, %d, %d", brief(e), brief(again), k, err)
			}
		} else if err != api.OK || k != kind || !reflect.DeepEqual(e, again) {
			t.Fatalf("%s bound again is %s, %d, %d", brief(e), brief(again), k, err)
		}
	}
}
