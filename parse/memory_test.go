package parse_test

import (
	"math/rand"
	"reflect"
	"strings"
	"testing"
	"unsafe"

	"palimpsest/api"
	"palimpsest/parse"
)

// lent tells a text that lies in bytes that can be changed behind a call.
func lent(b []byte) string {
	return unsafe.String(unsafe.SliceData(b), len(b))
}

// span is where something lies in memory.
type span struct{ from, to uintptr }

func (a span) meets(b span) bool { return a.from < b.to && b.from < a.to }

func bytesOf(b []byte) span {
	from := uintptr(unsafe.Pointer(unsafe.SliceData(b)))
	return span{from, from + uintptr(len(b))}
}

// lies tells where all texts and all lists of x lie, the lists with their spare room.
func lies(x any) (texts, lists []span) {
	var look func(v reflect.Value)
	look = func(v reflect.Value) {
		switch v.Kind() {
		case reflect.Struct:
			for i := range v.NumField() {
				look(v.Field(i))
			}
		case reflect.String:
			if s := v.String(); s != "" {
				from := uintptr(unsafe.Pointer(unsafe.StringData(s)))
				texts = append(texts, span{from, from + uintptr(len(s))})
			}
		case reflect.Slice:
			if v.Cap() > 0 {
				lists = append(lists, span{v.Pointer(), v.Pointer() + uintptr(v.Cap())*v.Type().Elem().Size()})
			}
			for i := range v.Len() {
				look(v.Index(i))
			}
		}
	}
	look(reflect.ValueOf(x))
	return texts, lists
}

// spoil writes over all lists of x, spare room and all.
func spoil(v reflect.Value) {
	switch v.Kind() {
	case reflect.Struct:
		for i := range v.NumField() {
			spoil(v.Field(i))
		}
	case reflect.Slice:
		v = v.Slice(0, v.Cap())
		for i := range v.Len() {
			spoil(v.Index(i))
		}
		for i := range v.Len() {
			v.Index(i).Set(junk(v.Type().Elem()))
		}
	}
}

func junk(t reflect.Type) reflect.Value {
	v := reflect.New(t).Elem()
	switch t {
	case reflect.TypeFor[string]():
		v.SetString("spoilt")
	case reflect.TypeFor[api.Expr]():
		v.Set(reflect.ValueOf(api.Expr{Op: 77, Name: "spoilt"}))
	case reflect.TypeFor[api.Col]():
		v.Set(reflect.ValueOf(api.Col{Name: "spoilt", Type: 77}))
	case reflect.TypeFor[api.Item]():
		v.Set(reflect.ValueOf(api.Item{As: "spoilt"}))
	case reflect.TypeFor[api.Ref]():
		v.Set(reflect.ValueOf(api.Ref{Alias: "spoilt"}))
	case reflect.TypeFor[api.Order]():
		v.Set(reflect.ValueOf(api.Order{Desc: true}))
	}
	return v
}

// given are texts that are right and texts that are wrong, of all kinds.
func given() []string {
	m := maker{rand.New(rand.NewSource(9))}
	l := []string{
		"a", "A.b", "'it''s'", "a + 2 * b", "f(A, 'x', t.c) in (1, 'y')", "count(*)", "a b", "", "a !", "'x", strings.Repeat("(", 30), strings.Repeat(" ", 5000), "select a, b c from t",
		"create table t (a int, b text)", "insert into t (a, b) values (1, 'x'), (2, 'y')", "insert into t (a, b) values (1, 'x'), (2, ", "savepoint s", "drop index i", "create index i on t (c",
	}
	for range 300 {
		_, w := m.statement()
		s := m.written(w)
		l = append(l, s, s[:m.Intn(len(s))], m.written(m.tokens(m.expr(4), 0)))
	}
	return l
}

// answers are all that is told of a text.
type answers struct {
	Stmt  api.Stmt
	Errno api.Errno
	At    int
	Expr  api.Expr
	Error api.Errno
	Place int
}

func ask(s string) (x answers) {
	x.Stmt, x.Errno, x.At = parse.Statement(s)
	x.Expr, x.Error, x.Place = parse.Expr(s)
	return x
}

// TestTextsAreNew: no text is changed, and what is told lies nowhere in its bytes and does not change with them.
func TestTextsAreNew(t *testing.T) { // DOC's rule 3, 19.5
	for _, s := range given() {
		b := []byte(s)
		x := ask(lent(b))
		if string(b) != s {
			t.Fatalf("%q is changed: %q", s, b)
		}
		texts, _ := lies(x)
		for _, at := range texts {
			if at.meets(bytesOf(b)) {
				t.Fatalf("what is told of %q lies in it", s)
			}
		}
		for i := range b {
			b[i] = '!'
		}
		if !reflect.DeepEqual(x, ask(s)) {
			t.Fatalf("what was told of %q has changed", s)
		}
	}
}

// TestListsAreNew: what is told can be written over, spare room too, and no other answer changes; no two lists of one answer share any.
func TestListsAreNew(t *testing.T) { // DOC's rule 3, 19.5
	for _, s := range given() {
		first, second := ask(s), ask(s)
		if !reflect.DeepEqual(first, second) {
			t.Fatalf("%q is told in two ways", s)
		}
		_, lists := lies(first)
		for i, x := range lists {
			for _, y := range lists[:i] {
				if x.meets(y) {
					t.Fatalf("two lists of %q share memory", s)
				}
			}
		}
		spoil(reflect.ValueOf(&second).Elem())
		if !reflect.DeepEqual(first, ask(s)) {
			t.Fatalf("what is told of %q has changed", s)
		}
	}
}

// TestTextIsNew: an expression's text lies nowhere in the expression's own.
func TestTextIsNew(t *testing.T) { // DOC's rule 3, 19.5
	for _, e := range []api.Expr{name(lent([]byte("abc"))), of("", lent([]byte("abc"))), of("t", "n"), text("x"), text(""), null(), num(5), star(), call("f", a()), op(api.XAdd, a(), b()), op(api.XCol), op(0)} {
		s := parse.Text(e)
		told, _ := lies(s)
		own, _ := lies(e)
		for _, x := range own {
			if len(told) > 0 && x.meets(told[0]) {
				t.Errorf("%q lies in its expression", s)
			}
		}
	}
	b := []byte("abc")
	s := parse.Text(name(lent(b)))
	b[0] = '!'
	if s != "abc" {
		t.Errorf("%q has changed", s)
	}
}

// TestNothingIsKept: what was asked before makes no difference.
func TestNothingIsKept(t *testing.T) { // DOC's rule 3, LANGUAGE's rule 8
	for range 2 {
		reads(t, "a not in (b)", no(op(api.XIn, a(), b())))
		wrong(t, strings.Repeat("(", 25), api.ErrDeep, 24)
		reads(t, "((a))", a())
		misread(t, "a ^b")
		states(t, "insert into t values (1)", api.Stmt{Kind: api.SInsert, Table: "t", Rows: [][]api.Expr{{num(1)}}})
		misstated(t, "insert into t values (^)")
		states(t, "begin", api.Stmt{Kind: api.SBegin})
		tells(t, a(), "a")
	}
}
