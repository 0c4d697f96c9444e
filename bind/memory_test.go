package bind_test

import (
	"reflect"
	"testing"
	"unsafe"

	"palimpsest/api"
	"palimpsest/bind"
)

// span is where something lies in memory.
type span struct{ from, to uintptr }

func (a span) meets(b span) bool { return a.from < b.to && b.from < a.to }

// lies tells where all texts and all lists of x lie, the lists with their spare room.
func lies(x any) (texts, lists []span) {
	var look func(v reflect.Value)
	look = func(v reflect.Value) {
		switch v.Kind() {
		case reflect.Struct:
			for i := range v.NumField() {
				look(v.Field(i))
			}
		case reflect.String:
			if s := v.String(); s != "" {
				from := uintptr(unsafe.Pointer(unsafe.StringData(s)))
				texts = append(texts, span{from, from + uintptr(len(s))})
			}
		case reflect.Slice:
			if v.Cap() > 0 {
				lists = append(lists, span{v.Pointer(), v.Pointer() + uintptr(v.Cap())*v.Type().Elem().Size()})
			}
			for i := range v.Len() {
				look(v.Index(i))
			}
		}
	}
	look(reflect.ValueOf(x))
	return texts, lists
}

// lent tells a copy of x whose texts lie in bytes that can be changed, and whose lists have spare room with something in it.
func lent[T any](x T, l *[][]byte) T {
	var lend func(v reflect.Value)
	lend = func(v reflect.Value) {
		switch v.Kind() {
		case reflect.Struct:
			for i := range v.NumField() {
				lend(v.Field(i))
			}
		case reflect.String:
			if b := []byte(v.String()); len(b) > 0 {
				*l = append(*l, b)
				v.SetString(unsafe.String(&b[0], len(b)))
			}
		case reflect.Slice:
			n := v.Len()
			room := reflect.MakeSlice(v.Type(), n+2, n+2)
			reflect.Copy(room, v)
			for i := range n {
				lend(room.Index(i))
			}
			for i := n; i < n+2; i++ {
				room.Index(i).Set(junk(v.Type().Elem()))
			}
			v.Set(room.Slice(0, n))
		}
	}
	y := x
	lend(reflect.ValueOf(&y).Elem())
	return y
}

// spoil writes over all lists of x, spare room and all.
func spoil(v reflect.Value) {
	switch v.Kind() {
	case reflect.Struct:
		for i := range v.NumField() {
			spoil(v.Field(i))
		}
	case reflect.Slice:
		v = v.Slice(0, v.Cap())
		for i := range v.Len() {
			spoil(v.Index(i))
		}
		for i := range v.Len() {
			v.Index(i).Set(junk(v.Type().Elem()))
		}
	}
}

func junk(t reflect.Type) reflect.Value {
	v := reflect.New(t).Elem()
	switch t {
	case reflect.TypeFor[string]():
		v.SetString("spoilt")
	case reflect.TypeFor[int]():
		v.SetInt(77)
	case reflect.TypeFor[api.Expr]():
		v.Set(reflect.ValueOf(api.Expr{Op: 77, Name: "spoilt"}))
	case reflect.TypeFor[api.Col]():
		v.Set(reflect.ValueOf(api.Col{Name: "spoilt", Type: 77}))
	case reflect.TypeFor[api.Index]():
		v.Set(reflect.ValueOf(api.Index{Name: "spoilt", Col: 77}))
	case reflect.TypeFor[api.Table]():
		v.Set(reflect.ValueOf(api.Table{Name: "spoilt"}))
	case reflect.TypeFor[api.Item]():
		v.Set(reflect.ValueOf(api.Item{As: "spoilt"}))
	case reflect.TypeFor[api.Ref]():
		v.Set(reflect.ValueOf(api.Ref{Alias: "spoilt"}))
	case reflect.TypeFor[api.Order]():
		v.Set(reflect.ValueOf(api.Order{Desc: true}))
	}
	return v
}

// unroomed tells a copy of x, of which each list stands with its spare room.
func unroomed[T any](x T) T {
	var show func(v reflect.Value)
	show = func(v reflect.Value) {
		switch v.Kind() {
		case reflect.Struct:
			for i := range v.NumField() {
				show(v.Field(i))
			}
		case reflect.String:
			v.SetString(string([]byte(v.String())))
		case reflect.Slice:
			room := reflect.MakeSlice(v.Type(), v.Cap(), v.Cap())
			reflect.Copy(room, v.Slice(0, v.Cap()))
			for i := range room.Len() {
				show(room.Index(i))
			}
			v.Set(room)
		}
	}
	y := x
	show(reflect.ValueOf(&y).Elem())
	return y
}

// asked is what all calls are asked.
type asked struct {
	Stmt   api.Stmt
	Tables []api.Table
	Expr   api.Expr
	Names  []string
	Aggs   bool
}

// told is what all calls tell of it.
type told struct {
	Stmt    api.Stmt
	Err     api.Errno
	Expr    api.Expr
	Kind    int
	Error   api.Errno
	Columns []string
	Own     []string
	Same    bool
}

func ask(q asked) (x told) {
	x.Stmt, x.Err = bind.Statement(q.Stmt, q.Tables)
	x.Expr, x.Kind, x.Error = bind.Expr(q.Expr, q.Tables, q.Names, q.Aggs)
	x.Columns = bind.Columns(q.Stmt, q.Tables)
	if x.Stmt.Kind == api.SSelect {
		x.Own = bind.Columns(x.Stmt, q.Tables)
	}
	x.Same = bind.Same(q.Expr, x.Expr)
	return x
}

// questions are of all kinds, of right ones and of wrong ones.
func questions() []asked {
	var l []asked
	madeOf(31, 1500, func(s api.Stmt, tables []api.Table) {
		q := asked{Stmt: s, Tables: tables, Expr: s.Where, Aggs: len(l)%2 == 0}
		for _, t := range tables {
			q.Names = append(q.Names, t.Name)
		}
		if len(s.Items) > 0 {
			q.Expr = s.Items[0].E
		}
		l = append(l, q)
		if s.Kind == api.SSelect { // what is bound can be asked for its columns
			if s, err := bind.Statement(s, tables); err == api.OK {
				q.Stmt = s
				l = append(l, q)
			}
		}
	})
	full := api.Stmt{Table: "t", Name: "k", Column: "a", Cols: []api.Col{{Name: "aa"}, {Name: "bb"}}, Columns: []string{"a", "b"}, Rows: [][]api.Expr{{num(1), text("xy")}, {name("aa"), null()}, {}}, Sets: []api.Expr{name("zz"), op(api.XNot, name("ab"))}, Items: []api.Item{{Star: true, E: name("aa"), As: "bb", Name: "cc"}}, From: []api.Ref{{Table: "tt", Alias: "uu", On: op(api.XAnd, name("zz"), text("zz"))}}, Where: op(api.XAnd, name("zz"), text("zz")), Having: within(text("ab")), Group: []api.Expr{op(api.XNeg, num(1))}, Order: []api.Order{{E: within(of("tt", "uu"))}}}
	for kind := range api.SRelease + 2 {
		s := full
		s.Kind = kind
		l = append(l, asked{Stmt: s, Tables: tables(), Expr: within(of("x", "a")), Names: []string{"x", "y"}, Aggs: true})
		s.Table = "new"
		l = append(l, asked{Stmt: s, Tables: tables(), Expr: call("foo"), Names: []string{"x"}})
	}
	return l
}

// TestArguments: what is handed in is not changed, nor its spare room, and what is told lies nowhere in it.
func TestArguments(t *testing.T) { // DOC's rule 3, 20.5
	for _, q := range questions() {
		var bytes [][]byte
		x := lent(q, &bytes)
		before := unroomed(x)
		got := ask(x)
		if !reflect.DeepEqual(unroomed(x), before) {
			t.Fatalf("%s is changed", brief(q))
		}
		texts, lists := lies(got)
		ownTexts, ownLists := lies(x)
		for _, l := range [][2][]span{{texts, ownTexts}, {lists, ownLists}} {
			for _, a := range l[0] {
				for _, b := range l[1] {
					if a.meets(b) {
						t.Fatalf("what is told of %s lies in it", brief(q))
					}
				}
			}
		}
		spoil(reflect.ValueOf(&x).Elem())
		for _, b := range bytes {
			for i := range b {
				b[i] = '!'
			}
		}
		if again := ask(q); !reflect.DeepEqual(got, again) {
			t.Fatalf("what was told of %s has changed: %s, %s", brief(q), brief(got), brief(again))
		}
	}
}

// TestListsAreNew: what is told can be written over, spare room too, and no other answer changes; no two lists of one answer share any.
func TestListsAreNew(t *testing.T) { // DOC's rule 3, 20.5
	for _, q := range questions() {
		first, second := ask(q), ask(q)
		if !reflect.DeepEqual(first, second) {
			t.Fatalf("%s is told in two ways", brief(q))
		}
		_, lists := lies(first)
		for i, x := range lists {
			for _, y := range lists[:i] {
				if x.meets(y) {
					t.Fatalf("two lists of %s share memory", brief(first))
				}
			}
		}
		spoil(reflect.ValueOf(&second).Elem())
		if !reflect.DeepEqual(first, ask(q)) {
			t.Fatalf("what is told of %s has changed", brief(q))
		}
	}
}

// TestSpareRoom: what lies behind an answer's lists is nothing.
func TestSpareRoom(t *testing.T) { // DOC's rule 3
	for _, q := range questions() {
		var bytes [][]byte
		got := ask(lent(q, &bytes))
		var look func(v reflect.Value)
		look = func(v reflect.Value) {
			switch v.Kind() {
			case reflect.Struct:
				for i := range v.NumField() {
					look(v.Field(i))
				}
			case reflect.Slice:
				for i := range v.Len() {
					look(v.Index(i))
				}
				room := v.Slice(0, v.Cap())
				for i := v.Len(); i < room.Len(); i++ {
					if !room.Index(i).IsZero() {
						t.Fatalf("behind a list of %s lies %s", brief(got), brief(room.Index(i).Interface()))
					}
				}
			}
		}
		look(reflect.ValueOf(got))
	}
}

// TestEmptyLists: nil and an empty list mean the same.
func TestEmptyLists(t *testing.T) { // DOC's rule 1
	for _, q := range questions() {
		e := q
		var fill func(v reflect.Value)
		fill = func(v reflect.Value) {
			switch v.Kind() {
			case reflect.Struct:
				for i := range v.NumField() {
					fill(v.Field(i))
				}
			case reflect.Slice:
				room := reflect.MakeSlice(v.Type(), v.Len(), v.Len()+1)
				reflect.Copy(room, v)
				for i := range v.Len() {
					fill(room.Index(i))
				}
				v.Set(room)
			}
		}
		fill(reflect.ValueOf(&e).Elem())
		if a, b := ask(q), ask(e); !reflect.DeepEqual(a, b) {
			t.Fatalf("%s: %s, %s", brief(q), brief(a), brief(b))
		}
	}
}

// TestNothingIsKept: what was asked before makes no difference.
func TestNothingIsKept(t *testing.T) { // DOC's rule 3, LANGUAGE's rule 8
	for range 2 {
		binds(t, name("b"), col(0, 1), 2)
		refuses(t, star(), false, api.ErrAgg)
		works(t, "select a as x from t order by x", "create table v (a int)", "insert into t (a) values (1)")
		fails(t, api.ErrName, "select a from t order by x", "insert into v values (1)")
		fails(t, api.ErrAgg, "select a from t group by b")
		works(t, "select a, b from t group by b, a")
	}
}
