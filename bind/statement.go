package bind

import (
	"slices"
	"strings"

	"palimpsest/api"
)

// catalog is what tables there are.
type catalog []api.Table

// statement binds a statement. What is told beside an error means nothing.
func (k catalog) statement(s api.Stmt) (api.Stmt, api.Errno) {
	ok := true
	switch s.Kind {
	case api.SCreate:
		ok = k.mayCreate(s)
	case api.SDrop:
		_, ok = k.table(s.Table)
	case api.SIndex:
		ok = k.mayIndex(s)
	case api.SDropIndex:
		ok = k.hasIndex(s.Name)
	case api.SInsert:
		return k.insert(s)
	case api.SUpdate:
		return k.update(s)
	case api.SDelete:
		return k.delete(s)
	case api.SSelect:
		return k.query(s)
	case api.SBegin, api.SCommit, api.SRollback, api.SSave, api.SBack, api.SRelease:
	default:
		return s, api.ErrArg
	}
	if !ok {
		return s, api.ErrName
	}
	return newStmt(s), api.OK
}

func (k catalog) table(name string) (api.Table, bool) {
	i := slices.IndexFunc(k, func(t api.Table) bool { return t.Name == name })
	if i < 0 {
		return api.Table{}, false
	}
	return k[i], true
}

func (k catalog) hasIndex(name string) bool {
	return slices.ContainsFunc(k, func(t api.Table) bool {
		return slices.ContainsFunc(t.Indexes, func(x api.Index) bool { return x.Name == name })
	})
}

func (k catalog) mayCreate(s api.Stmt) bool {
	_, there := k.table(s.Table)
	n := len(s.Cols)
	return !there && len(k) < api.MaxTables && 0 < n && n <= api.MaxCols && !twice(names(s.Cols))
}

func (k catalog) mayIndex(s api.Stmt) bool {
	t, there := k.table(s.Table)
	return there && !k.hasIndex(s.Name) && len(t.Indexes) < api.MaxIndexes && slices.Contains(names(t.Cols), s.Column)
}

func (k catalog) insert(s api.Stmt) (api.Stmt, api.Errno) {
	t, ok := k.table(s.Table)
	if !ok {
		return s, api.ErrName
	}
	x := api.Stmt{Kind: s.Kind, Table: strings.Clone(s.Table), Columns: fresh(s.Columns, strings.Clone)}
	if len(x.Columns) == 0 {
		x.Columns = names(t.Cols)
	}
	kinds, ok := types(t, x.Columns)
	if !ok {
		return s, api.ErrName
	}
	bind := naming(nil, nil, false)
	for _, l := range s.Rows {
		row, err := values(bind, l, kinds)
		if err != api.OK {
			return s, err
		}
		x.Rows = append(x.Rows, row)
	}
	return x, api.OK
}

func (k catalog) update(s api.Stmt) (api.Stmt, api.Errno) {
	t, ok := k.table(s.Table)
	if !ok || len(s.Columns) == 0 {
		return s, api.ErrName
	}
	kinds, ok := types(t, s.Columns)
	if !ok {
		return s, api.ErrName
	}
	bind := naming([]api.Table{t}, []string{s.Table}, false)
	sets, err := values(bind, s.Sets, kinds)
	if err != api.OK {
		return s, err
	}
	where, err := truth(bind, s.Where)
	return api.Stmt{Kind: s.Kind, Table: strings.Clone(s.Table), Columns: fresh(s.Columns, strings.Clone), Sets: sets, Where: where}, err
}

func (k catalog) delete(s api.Stmt) (api.Stmt, api.Errno) {
	t, ok := k.table(s.Table)
	if !ok {
		return s, api.ErrName
	}
	where, err := truth(naming([]api.Table{t}, []string{s.Table}, false), s.Where)
	return api.Stmt{Kind: s.Kind, Table: strings.Clone(s.Table), Where: where}, err
}

// values binds what is put into columns of these types.
func values(bind clause, l []api.Expr, kinds []int) ([]api.Expr, api.Errno) {
	if len(l) != len(kinds) {
		return nil, api.ErrType
	}
	var x []api.Expr
	for i, e := range l {
		v, kind, err := bind(e)
		if err != api.OK {
			return nil, err
		}
		if kind != kinds[i] && kind != 0 {
			return nil, api.ErrType
		}
		x = append(x, v)
	}
	return x, api.OK
}

// truth binds a clause that says what must be true. One that is left out stays so.
func truth(bind clause, e api.Expr) (api.Expr, api.Errno) {
	if e.Op == 0 {
		return api.Expr{}, api.OK
	}
	x, kind, err := bind(e)
	if err == api.OK && kind != api.TBool && kind != 0 {
		err = api.ErrType
	}
	return x, err
}

// types tells the types of a table's columns that are named, none of them twice.
func types(t api.Table, columns []string) ([]int, bool) {
	var l []int
	for _, name := range columns {
		i := slices.IndexFunc(t.Cols, func(c api.Col) bool { return c.Name == name })
		if i < 0 {
			return nil, false
		}
		l = append(l, t.Cols[i].Type)
	}
	return l, !twice(columns)
}

// names tells the columns' names.
func names(cols []api.Col) []string {
	var l []string
	for _, c := range cols {
		l = append(l, strings.Clone(c.Name))
	}
	return l
}

// twice tells whether a text stands in a list more than once.
func twice(l []string) bool {
	for i, s := range l {
		if slices.Contains(l[:i], s) {
			return true
		}
	}
	return false
}
