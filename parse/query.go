package parse

import "palimpsest/api"

// query reads a select behind its word.
func (w *words) query(s *api.Stmt) {
	s.Distinct = w.take("distinct")
	s.Items = w.items()
	w.need("from")
	s.From = w.from()
	s.Where = w.clause("where")
	if w.take("group") {
		w.need("by")
		s.Group = list(w, w.expr)
	}
	s.Having = w.clause("having")
	if w.take("order") {
		w.need("by")
		s.Order = list(w, w.order)
	}
	s.Limit = -1
	if w.take("limit") {
		s.Limit = w.number()
		if w.take("offset") {
			s.Offset = w.number()
		}
	}
}

func (w *words) items() []api.Item {
	if w.take("*") {
		return []api.Item{{Star: true}}
	}
	return list(w, w.item)
}

func (w *words) item() api.Item {
	i := api.Item{E: w.expr()}
	if w.take("as") {
		i.As = w.name()
	}
	return i
}

// from reads the first table and those that are joined to it.
func (w *words) from() []api.Ref {
	l := []api.Ref{w.ref()}
	for w.is("inner") || w.is("join") {
		w.take("inner")
		w.need("join")
		r := w.ref()
		w.need("on")
		r.On = w.expr()
		l = append(l, r)
	}
	return l
}

func (w *words) ref() api.Ref {
	r := api.Ref{Table: w.name()}
	r.Alias = r.Table
	if w.take("as") || w.named() {
		r.Alias = w.name()
	}
	return r
}

func (w *words) order() api.Order {
	o := api.Order{E: w.expr()}
	if !w.take("asc") {
		o.Desc = w.take("desc")
	}
	return o
}
