package bind

import (
	"iter"
	"slices"
	"strings"

	"palimpsest/api"
)

// query is a select that is under way.
type query struct {
	s     api.Stmt // as it is asked
	x     api.Stmt // what is bound
	from  []api.Table
	names []string // what those are called
	row   clause   // how is bound what is asked of rows
	told  clause   // how is bound what is told of them, or of groups
}

// query binds a select, clause by clause.
func (k catalog) query(s api.Stmt) (api.Stmt, api.Errno) {
	q := query{s: s}
	q.x = api.Stmt{Kind: s.Kind, Explain: s.Explain, Distinct: s.Distinct, Limit: s.Limit, Offset: s.Offset}
	if !q.reads(k) {
		return s, api.ErrName
	}
	q.row, q.told = naming(q.from, q.names, false), naming(q.from, q.names, true)
	for _, bind := range []func() api.Errno{q.on, q.where, q.group, q.items, q.having, q.order} {
		if err := bind(); err != api.OK {
			return s, err
		}
	}
	if q.grouped() && q.loose() || q.x.Distinct && q.unseen() {
		return s, api.ErrAgg
	}
	return q.x, api.OK
}

// reads finds the tables, if they are there.
func (q *query) reads(k catalog) bool {
	for _, r := range q.s.From {
		t, ok := k.table(r.Table)
		if !ok {
			return false
		}
		q.from, q.names = append(q.from, t), append(q.names, r.Alias)
	}
	return len(q.from) <= api.MaxFrom && !twice(q.names)
}

// on binds the refs. The first one joins nothing, and of those behind each may name what stands by then.
func (q *query) on() api.Errno {
	for i, r := range q.s.From {
		x := api.Ref{Table: strings.Clone(r.Table), Alias: strings.Clone(r.Alias)}
		if i > 0 {
			var err api.Errno
			if x.On, err = truth(naming(q.from[:i+1], q.names[:i+1], false), r.On); err != api.OK {
				return err
			}
		}
		q.x.From = append(q.x.From, x)
	}
	return api.OK
}

func (q *query) where() (err api.Errno) {
	q.x.Where, err = truth(q.row, q.s.Where)
	return err
}

// group binds names alone; a place is no name, and no expression that can be bound either.
func (q *query) group() api.Errno {
	for _, e := range q.s.Group {
		if e.Op != api.XName && e.Op != api.XCol {
			return api.ErrAgg
		}
		x, _, err := q.row(e)
		if err != api.OK {
			return err
		}
		q.x.Group = append(q.x.Group, x)
	}
	return api.OK
}

func (q *query) items() api.Errno {
	for _, it := range q.s.Items {
		if it.Star {
			q.x.Items = append(q.x.Items, q.all(it.As)...)
			continue
		}
		x, _, err := q.told(it.E)
		if err != api.OK {
			return err
		}
		q.x.Items = append(q.x.Items, api.Item{E: x, As: strings.Clone(it.As), Name: strings.Clone(called(it))})
	}
	return api.OK
}

// all tells an item of each column of each table.
func (q *query) all(as string) []api.Item {
	var l []api.Item
	for t, table := range q.from {
		for c, col := range table.Cols {
			l = append(l, api.Item{E: api.Expr{Op: api.XCol, T: t, C: c}, As: strings.Clone(as), Name: strings.Clone(col.Name)})
		}
	}
	return l
}

// called tells what an item is called, by what it was ahead of being bound.
func called(it api.Item) string {
	if it.As != "" {
		return it.As
	}
	switch it.E.Op {
	case api.XName, api.XAgg, api.XCall:
		return it.E.Name
	}
	return "?"
}

func (q *query) having() (err api.Errno) {
	q.x.Having, err = truth(q.told, q.s.Having)
	return err
}

func (q *query) order() api.Errno {
	for _, o := range q.s.Order {
		x, ok := q.alias(o.E)
		if !ok {
			var err api.Errno
			if x, _, err = q.told(o.E); err != api.OK {
				return err
			}
		}
		q.x.Order = append(q.x.Order, api.Order{E: x, Desc: o.Desc})
	}
	return api.OK
}

// alias tells the expression that an item has given that name.
func (q *query) alias(e api.Expr) (api.Expr, bool) {
	if e.Op != api.XName || e.Table != "" || e.Name == "" || len(e.Kids) > 0 {
		return api.Expr{}, false
	}
	i := slices.IndexFunc(q.x.Items, func(x api.Item) bool { return x.As == e.Name })
	if i < 0 {
		return api.Expr{}, false
	}
	return newExpr(q.x.Items[i].E), true
}

// exprs goes through what is told of rows or groups, and by what that is sorted.
func (q *query) exprs(yield func(api.Expr) bool) {
	for _, x := range q.x.Items {
		if !yield(x.E) {
			return
		}
	}
	for _, o := range q.x.Order {
		if !yield(o.E) {
			return
		}
	}
}

// grouped tells whether what is told is told of groups.
func (q *query) grouped() bool {
	if len(q.x.Group) > 0 || q.x.Having.Op != 0 {
		return true
	}
	for e := range q.exprs {
		for x := range apart(e) {
			if x.Op == api.XAgg {
				return true
			}
		}
	}
	return false
}

// loose tells whether a column that the groups are not made by stands apart from aggregates: it has not one value in a group.
func (q *query) loose() bool {
	l := slices.Collect(q.exprs)
	for _, e := range append(l, q.x.Having) {
		for x := range apart(e) {
			if x.Op == api.XCol && !slices.ContainsFunc(q.x.Group, func(g api.Expr) bool { return Same(g, x) }) {
				return true
			}
		}
	}
	return false
}

// unseen tells whether lines are sorted by what is not told in them: of those that are told once, several may have stood at several places.
func (q *query) unseen() bool {
	return slices.ContainsFunc(q.x.Order, func(o api.Order) bool {
		return !slices.ContainsFunc(q.x.Items, func(x api.Item) bool { return Same(x.E, o.E) })
	})
}

// apart goes through an expression's forms but those that lie in aggregates.
func apart(e api.Expr) iter.Seq[api.Expr] {
	return func(yield func(api.Expr) bool) {
		todo := []api.Expr{e}
		for len(todo) > 0 {
			x := todo[len(todo)-1]
			todo = todo[:len(todo)-1]
			if !yield(x) {
				return
			}
			if x.Op != api.XAgg {
				todo = append(todo, x.Kids...)
			}
		}
	}
}
