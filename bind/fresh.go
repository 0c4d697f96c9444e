package bind

import (
	"strings"

	"palimpsest/api"
)

// fresh tells a list in memory of its own, of what each item becomes.
func fresh[T any](l []T, of func(T) T) []T {
	var x []T
	for _, v := range l {
		x = append(x, of(v))
	}
	return x
}

// newExpr tells an expression in memory of its own. What is still to be done stands in a list: a tree can be too deep for a call within a call.
func newExpr(e api.Expr) api.Expr {
	todo := []*api.Expr{&e}
	for len(todo) > 0 {
		x := todo[len(todo)-1]
		todo = todo[:len(todo)-1]
		x.Table, x.Name, x.V.Text = strings.Clone(x.Table), strings.Clone(x.Name), strings.Clone(x.V.Text)
		x.Kids = append([]api.Expr(nil), x.Kids...)
		for i := range x.Kids {
			todo = append(todo, &x.Kids[i])
		}
	}
	return e
}

// newStmt tells a statement in memory of its own.
func newStmt(s api.Stmt) api.Stmt {
	exprs := func(l []api.Expr) []api.Expr { return fresh(l, newExpr) }
	s.Table, s.Name, s.Column = strings.Clone(s.Table), strings.Clone(s.Name), strings.Clone(s.Column)
	s.Cols = fresh(s.Cols, func(c api.Col) api.Col {
		c.Name = strings.Clone(c.Name)
		return c
	})
	s.Columns = fresh(s.Columns, strings.Clone)
	s.Rows = fresh(s.Rows, exprs)
	s.Sets = exprs(s.Sets)
	s.Items = fresh(s.Items, func(x api.Item) api.Item {
		return api.Item{Star: x.Star, E: newExpr(x.E), As: strings.Clone(x.As), Name: strings.Clone(x.Name)}
	})
	s.From = fresh(s.From, func(r api.Ref) api.Ref {
		return api.Ref{Table: strings.Clone(r.Table), Alias: strings.Clone(r.Alias), On: newExpr(r.On)}
	})
	s.Where, s.Having = newExpr(s.Where), newExpr(s.Having)
	s.Group = exprs(s.Group)
	s.Order = fresh(s.Order, func(o api.Order) api.Order {
		return api.Order{E: newExpr(o.E), Desc: o.Desc}
	})
	return s
}
