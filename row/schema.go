package row

import (
	"palimpsest/api"
	"palimpsest/key"
)

// Schema tells a table's bytes: those of its fields as values, each list behind its count.
func Schema(t api.Table) []byte {
	l := []api.Value{text(t.Name), number(len(t.Cols))}
	for _, c := range t.Cols {
		l = append(l, text(c.Name), number(c.Type), truth(c.NotNull), truth(c.Unique))
	}
	l = append(l, number(len(t.Indexes)))
	for _, x := range t.Indexes {
		l = append(l, text(x.Name), number(x.Col), truth(x.Unique))
	}
	l = append(l, number(t.Head), number(len(t.Roots)))
	for _, r := range t.Roots {
		l = append(l, number(r))
	}
	return key.Join(l)
}

// Table tells the table whose Schema b is. It makes no room by a count: one that lies ends where the fields end.
func Table(b []byte) (api.Table, bool) {
	var t api.Table
	var n int
	l, ok := key.Split(b)
	f := fields{rest: l}
	if !ok {
		goto wrong
	}
	if !f.text(&t.Name) || !f.count(&n) {
		goto wrong
	}
	for range n {
		var c api.Col
		if !f.text(&c.Name) || !f.number(&c.Type) || !f.truth(&c.NotNull) || !f.truth(&c.Unique) {
			goto wrong
		}
		t.Cols = append(t.Cols, c)
	}
	if !f.count(&n) {
		goto wrong
	}
	for range n {
		var x api.Index
		if !f.text(&x.Name) || !f.number(&x.Col) || !f.truth(&x.Unique) {
			goto wrong
		}
		t.Indexes = append(t.Indexes, x)
	}
	if !f.number(&t.Head) || !f.count(&n) {
		goto wrong
	}
	for range n {
		var r int
		if !f.number(&r) {
			goto wrong
		}
		t.Roots = append(t.Roots, r)
	}
	if len(f.rest) > 0 {
		goto wrong
	}
	return t, true
wrong:
	return api.Table{}, false
}

func number(n int) api.Value {
	return api.Value{Type: api.TInt, Int: n}
}

func text(s string) api.Value {
	return api.Value{Type: api.TText, Text: s}
}

func truth(is bool) api.Value {
	return api.Value{Type: api.TBool, Bool: is}
}

// fields takes a schema's fields from the front of its values. Each of its steps tells whether the field was there and of its type.
type fields struct {
	rest []api.Value
}

// count takes a number that a list may have of items.
func (f *fields) count(into *int) bool {
	return f.number(into) && *into >= 0
}

func (f *fields) number(into *int) bool {
	v, ok := f.next(api.TInt)
	*into = v.Int
	return ok
}

func (f *fields) text(into *string) bool {
	v, ok := f.next(api.TText)
	*into = v.Text
	return ok
}

func (f *fields) truth(into *bool) bool {
	v, ok := f.next(api.TBool)
	*into = v.Bool
	return ok
}

func (f *fields) next(kind int) (v api.Value, ok bool) {
	if len(f.rest) == 0 || f.rest[0].Type != kind {
		return api.Value{}, false
	}
	v, f.rest = f.rest[0], f.rest[1:]
	return v, true
}
