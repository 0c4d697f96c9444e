package parse

import "palimpsest/api"

// statement reads a statement, perhaps with a ; behind.
func (w *words) statement() api.Stmt {
	s := w.kind()
	switch s.Kind {
	case api.SCreate:
		s.Table = w.name()
		s.Cols = enclosed(w, w.col)
	case api.SDrop:
		s.Table = w.name()
	case api.SIndex:
		w.index(&s)
	case api.SInsert:
		w.insert(&s)
	case api.SUpdate:
		w.update(&s)
	case api.SDelete:
		w.need("from")
		s.Table = w.name()
		s.Where = w.clause("where")
	case api.SSelect:
		w.query(&s)
	case api.SDropIndex, api.SSave, api.SBack, api.SRelease:
		s.Name = w.name()
	}
	w.take(";")
	return s
}

// kind takes the first words, which lead through the labels to which statement it is, and tells what they say of it.
func (w *words) kind() (s api.Stmt) {
	switch {
	case w.take("create"):
		goto create
	case w.take("drop"):
		goto drop
	case w.take("insert"):
		s.Kind = api.SInsert
	case w.take("update"):
		s.Kind = api.SUpdate
	case w.take("delete"):
		s.Kind = api.SDelete
	case w.take("explain"):
		s.Explain = true
		goto query
	case w.is("select"):
		goto query
	case w.take("begin"):
		s.Kind = api.SBegin
	case w.take("commit"):
		s.Kind = api.SCommit
	case w.take("rollback"):
		goto rollback
	case w.take("savepoint"):
		s.Kind = api.SSave
	case w.take("release"):
		s.Kind = api.SRelease
	default:
		w.fail(api.ErrSyntax)
	}
	return s
create:
	s.Kind = api.SCreate
	if w.take("table") {
		return s
	}
	s.Kind, s.Unique = api.SIndex, w.take("unique")
	w.need("index")
	return s
drop:
	s.Kind = api.SDropIndex
	if w.take("index") {
		return s
	}
	s.Kind = api.SDrop
	w.need("table")
	return s
query:
	s.Kind = api.SSelect
	w.need("select")
	return s
rollback:
	s.Kind = api.SRollback
	if w.take("to") {
		s.Kind = api.SBack
	}
	return s
}

// col reads a column of a table that is made.
func (w *words) col() api.Col {
	c := api.Col{Name: w.name(), Type: w.valueType()}
	if w.take("not") {
		w.need("null")
		c.NotNull = true
	}
	if w.take("unique") {
		c.Unique = true
	}
	if w.take("primary") {
		w.need("key")
		c.NotNull, c.Unique = true, true
	}
	return c
}

func (w *words) valueType() int {
	switch {
	case w.take("int"):
		return api.TInt
	case w.take("text"):
		return api.TText
	case w.take("bool"):
		return api.TBool
	}
	w.fail(api.ErrSyntax)
	return api.TNull
}

func (w *words) index(s *api.Stmt) {
	s.Name = w.name()
	w.need("on")
	s.Table = w.name()
	w.need("(")
	s.Column = w.name()
	w.need(")")
}

func (w *words) insert(s *api.Stmt) {
	w.need("into")
	s.Table = w.name()
	if w.is("(") {
		s.Columns = enclosed(w, w.name)
	}
	w.need("values")
	s.Rows = list(w, w.row)
}

func (w *words) row() []api.Expr {
	return enclosed(w, w.expr)
}

func (w *words) update(s *api.Stmt) {
	s.Table = w.name()
	w.need("set")
	s.Sets = list(w, func() api.Expr {
		s.Columns = append(s.Columns, w.name())
		w.need("=")
		return w.expr()
	})
	s.Where = w.clause("where")
}

// clause reads an expression behind its word; nothing, if the word is not there.
func (w *words) clause(word string) (e api.Expr) {
	if w.take(word) {
		e = w.expr()
	}
	return e
}
