package parse

import (
	"palimpsest/api"
	"palimpsest/lex"
)

// words are the tokens that are still to be read, the last of them a statement's end, which is never taken.
//
// When a token does not fit, the rest is gone, and nothing fits the end: so whoever is under way comes to an end of its own, and need not ask whether all went well.
type words struct {
	rest  []api.Token
	depth int       // forms that the next token lies within
	err   api.Errno // the first fault
	at    int       // its place
}

// fail keeps a fault at the next token, unless there was one.
func (w *words) fail(e api.Errno) {
	if w.err != api.OK {
		return
	}
	w.err, w.at = e, w.rest[0].At
	w.rest = w.rest[len(w.rest)-1:]
}

// is tells whether the next token is that word or sign. A text that says the same is none.
func (w *words) is(s string) bool {
	return spells(w.rest[0], s)
}

func spells(t api.Token, s string) bool {
	return (t.Kind == api.KWord || t.Kind == api.KSign) && t.Text == s
}

// next takes the next token.
func (w *words) next() api.Token {
	t := w.rest[0]
	if t.Kind != api.KEnd {
		w.rest = w.rest[1:]
	}
	return t
}

// take takes that word or sign, if it is the next token.
func (w *words) take(s string) bool {
	is := w.is(s)
	if is {
		w.next()
	}
	return is
}

// need takes that word or sign, which must be the next token.
func (w *words) need(s string) {
	if !w.take(s) {
		w.fail(api.ErrSyntax)
	}
}

// named tells whether the next token is something's name.
func (w *words) named() bool {
	return w.rest[0].Kind == api.KWord && lex.Name(w.rest[0].Text)
}

func (w *words) name() string {
	if !w.named() {
		w.fail(api.ErrSyntax)
	}
	return w.next().Text
}

func (w *words) number() int {
	if w.rest[0].Kind != api.KInt {
		w.fail(api.ErrSyntax)
	}
	return w.next().Int
}

func (w *words) end() {
	if w.rest[0].Kind != api.KEnd {
		w.fail(api.ErrSyntax)
	}
}

// down goes into a form that begins with the next token.
func (w *words) down() {
	if w.depth == api.MaxDepth {
		w.fail(api.ErrDeep)
	}
	w.depth++
}

func (w *words) up() {
	w.depth--
}

// list reads one or more with commas between.
func list[T any](w *words, read func() T) []T {
	l := []T{read()}
	for w.take(",") {
		l = append(l, read())
	}
	return l
}

// enclosed reads a list in parentheses.
func enclosed[T any](w *words, read func() T) []T {
	w.need("(")
	l := list(w, read)
	w.need(")")
	return l
}
