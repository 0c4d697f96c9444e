package bind_test

import (
	"math/bits"
	"math/rand"
	"reflect"
	"testing"

	"palimpsest/api"
	"palimpsest/bind"
)

// What follows is a second reading of 20.1: an expression has a set of types that its value may be of, which for null are all, and a form asks that the sets of its kids have one in common.
type set uint64

const (
	all    = ^set(0)
	ints   = set(1) << api.TInt
	texts  = set(1) << api.TText
	truths = set(1) << api.TBool
)

func setOf(kind int) set {
	if kind == 0 {
		return all
	}
	return 1 << kind
}

func (s set) kind() int {
	if s == all {
		return 0
	}
	return bits.TrailingZeros64(uint64(s))
}

// place is a column that may be named.
type place struct {
	t, c        int
	table, name string
	kinds       set
}

func places(from []api.Table, names []string) []place {
	var l []place
	for t := range from {
		for c, x := range from[t].Cols {
			l = append(l, place{t, c, names[t], x.Name, setOf(x.Type)})
		}
	}
	return l
}

// shape is of how many kids a form is, what they have in common, and what comes of it: nothing is what they have in common.
type shape struct {
	least, most int
	asks, gives set
}

var shapes = func() map[int]shape {
	const many = 1 << 40
	l := map[int]shape{
		api.XNot: {1, 1, truths, truths}, api.XNeg: {1, 1, ints, ints}, api.XIsNull: {1, 1, all, truths},
		api.XIn: {2, many, all, truths}, api.XBetween: {3, 3, all, truths}, api.XCat: {2, 2, texts, texts},
		api.XOr: {2, 2, truths, truths}, api.XAnd: {2, 2, truths, truths},
	}
	for _, o := range []int{api.XEq, api.XNe, api.XLt, api.XLe, api.XGt, api.XGe} {
		l[o] = shape{2, 2, all, truths}
	}
	for _, o := range []int{api.XAdd, api.XSub, api.XMul, api.XDiv, api.XMod} {
		l[o] = shape{2, 2, ints, ints}
	}
	return l
}()

// named tells the shape of an aggregate or a call, and whether there is one.
func named(e api.Expr) (shape, bool) {
	switch name := e.Name; {
	case e.Op == api.XAgg && e.Star:
		return shape{0, 0, all, ints}, name == "count"
	case e.Op == api.XAgg && name == "count":
		return shape{1, 1, all, ints}, true
	case e.Op == api.XAgg && name == "sum":
		return shape{1, 1, ints, ints}, true
	case e.Op == api.XAgg:
		return shape{1, 1, all, 0}, name == "min" || name == "max"
	case name == "length":
		return shape{1, 1, texts, ints}, true
	case name == "abs":
		return shape{1, 1, ints, ints}, true
	}
	return shape{1, 1 << 40, all, 0}, e.Name == "coalesce"
}

func second(e api.Expr, l []place, aggs bool) (x api.Expr, kinds set, err api.Errno) {
	x = e
	x.Kids = nil
	common := all
	for _, k := range e.Kids {
		kid, kinds, err := second(k, l, aggs && e.Op != api.XAgg)
		if err != api.OK {
			return api.Expr{}, 0, err
		}
		x.Kids = append(x.Kids, kid)
		common &= kinds
	}
	form, there := shapes[e.Op]
	n := len(e.Kids)
	switch e.Op {
	case api.XLit:
		if n > 0 || e.V.Type < 0 || e.V.Type > 3 {
			return api.Expr{}, 0, api.ErrArg
		}
		return x, setOf(e.V.Type), api.OK
	case api.XName:
		var found []place
		for _, p := range l {
			if p.name == e.Name && (e.Table == "" || e.Table == p.table) {
				found = append(found, p)
			}
		}
		switch {
		case n > 0:
			return api.Expr{}, 0, api.ErrArg
		case len(found) != 1:
			return api.Expr{}, 0, api.ErrName
		}
		return col(found[0].t, found[0].c), found[0].kinds, api.OK
	case api.XAgg:
		form, there = named(e)
		if there && n >= form.least && n <= form.most && !aggs {
			return api.Expr{}, 0, api.ErrAgg
		}
	case api.XCall:
		form, there = named(e)
		switch {
		case n == 0:
			return api.Expr{}, 0, api.ErrArg
		case !there:
			return api.Expr{}, 0, api.ErrName
		case n > form.most:
			return api.Expr{}, 0, api.ErrType
		}
	}
	switch {
	case !there || n < form.least || n > form.most:
		return api.Expr{}, 0, api.ErrArg
	case common&form.asks == 0:
		return api.Expr{}, 0, api.ErrType
	case form.gives == 0:
		return x, common, api.OK
	}
	return x, form.gives, api.OK
}

// compared wants an expression to be bound as the second reading tells, and tells how it went.
func compared(t *testing.T, e api.Expr, from []api.Table, names []string, aggs bool) api.Errno {
	t.Helper()
	want, kinds, reason := second(e, places(from, names), aggs)
	kind := 0
	if reason == api.OK {
		kind = kinds.kind()
	}
	x, k, err := bind.Expr(e, from, names, aggs)
	if err != reason || k != kind || !reflect.DeepEqual(x, want) {
		t.Fatalf("Expr(%s, %s, %q, %t) = %s, %d, %d; want %s, %d, %d", brief(e), brief(from), names, aggs, brief(x), k, err, brief(want), kind, reason)
	}
	return err
}

func leaves() []api.Expr {
	return []api.Expr{null(), num(1), text("a"), truth(true), name("b"), of("x", "a"), name("d"), name("a"), name("z"), col(0, 0), star(), {Op: api.XLit, V: api.Value{Type: 4}}, {}}
}

// headless are all forms without kids, and some that are none.
func headless() []api.Expr {
	l := []api.Expr{call("length"), call("abs"), call("coalesce"), call("foo"), name("b"), num(1), {Op: api.XAgg, Name: "sum", Star: true}, star(), {Op: 99}, {Op: -1}, {}}
	for _, s := range []string{"count", "sum", "min", "max", "avg"} {
		l = append(l, agg(s))
	}
	for o := api.XCol; o <= api.XNeg+1; o++ {
		if o != api.XAgg && o != api.XCall {
			l = append(l, op(o), api.Expr{Op: o, Not: true})
		}
	}
	return l
}

// TestEachForm: each form of each leaf, each two, and each three.
func TestEachForm(t *testing.T) { // 20.1
	from, names := tables(), []string{"x", "y"}
	try := func(e api.Expr, kids ...api.Expr) {
		e.Kids = kids
		compared(t, e, from, names, true)
		compared(t, e, from, names, false)
		compared(t, op(api.XNot, e), from, names, true)
		compared(t, within(e), from, names, true)
	}
	l := leaves()
	for _, e := range headless() {
		try(e)
		for _, a := range l {
			try(e, a)
			for _, b := range l {
				try(e, a, b)
			}
		}
	}
	for _, e := range headless() {
		for _, a := range l {
			for _, b := range l {
				for _, c := range l {
					e.Kids = []api.Expr{a, b, c}
					compared(t, e, from, names, true)
				}
			}
		}
	}
}

func newRand(seed int64) *rand.Rand { return rand.New(rand.NewSource(seed)) }

// maker makes tables, expressions and statements of which most are right.
type maker struct{ *rand.Rand }

func one[T any](m maker, l ...T) T { return l[m.Intn(len(l))] }

// rarely is true now and then.
func (m maker) rarely(n int) bool { return m.Intn(n) == 0 }

func (m maker) tables() []api.Table {
	var l []api.Table
	for _, s := range []string{"t", "u", "v", "w"}[:1+m.Intn(4)] {
		x := api.Table{Name: s}
		for _, c := range []string{"a", "b", "c", "d", "e"} {
			if m.rarely(3) {
				continue
			}
			x.Cols = append(x.Cols, api.Col{Name: c, Type: 1 + m.Intn(3)})
			if m.rarely(60) {
				x.Cols = append(x.Cols, api.Col{Name: c, Type: one(m, 0, 1, 9)})
			}
		}
		for _, s := range []string{"i", "j", "k", "l", "m"} {
			if m.rarely(3) {
				x = index(x, s+x.Name)
			}
		}
		l = append(l, x)
	}
	return l
}

// scope is what may be named.
type scope struct {
	places []place
	aggs   bool
	sloppy int // one of so many forms is any
}

// expr makes an expression of a type, most times.
func (m maker) expr(s scope, kind, depth int) api.Expr {
	if s.sloppy > 0 && m.rarely(s.sloppy) {
		return m.any(s, depth)
	}
	if depth == 0 || m.rarely(4) {
		return m.leaf(s, kind)
	}
	sub := func(kind int) api.Expr { return m.expr(s, kind, depth-1) }
	if m.rarely(8) {
		return call("coalesce", sub(kind), sub(kind), sub(kind))
	}
	if s.aggs && m.rarely(6) {
		s.aggs = false
		if kind == api.TInt && m.rarely(2) {
			return agg(one(m, "count", "sum"), m.expr(s, api.TInt, depth-1))
		}
		return agg(one(m, "min", "max"), m.expr(s, kind, depth-1))
	}
	switch kind {
	case api.TInt:
		return m.number(s, sub)
	case api.TText:
		return op(api.XCat, sub(api.TText), sub(api.TText))
	case api.TBool:
		return m.truth(sub)
	}
	return null()
}

func (m maker) number(s scope, sub func(kind int) api.Expr) api.Expr {
	if s.aggs && m.rarely(4) {
		return star()
	}
	switch m.Intn(5) {
	case 0:
		return call("length", sub(api.TText))
	case 1:
		return call("abs", sub(api.TInt))
	case 2:
		return op(api.XNeg, sub(api.TInt))
	}
	return op(one(m, api.XAdd, api.XSub, api.XMul, api.XDiv, api.XMod), sub(api.TInt), sub(api.TInt))
}

func (m maker) truth(sub func(kind int) api.Expr) api.Expr {
	kind, not := 1+m.Intn(3), m.rarely(2)
	switch m.Intn(6) {
	case 0:
		return op(api.XNot, sub(api.TBool))
	case 1:
		return api.Expr{Op: api.XIsNull, Not: not, Kids: []api.Expr{sub(kind)}}
	case 2:
		return api.Expr{Op: api.XIn, Not: not, Kids: []api.Expr{sub(kind), sub(kind), sub(kind)}}
	case 3:
		return api.Expr{Op: api.XBetween, Not: not, Kids: []api.Expr{sub(kind), sub(kind), sub(kind)}}
	case 4:
		return op(one(m, api.XAnd, api.XOr), sub(api.TBool), sub(api.TBool))
	}
	return op(api.XEq+m.Intn(6), sub(kind), sub(kind))
}

// leaf makes a literal of a type, or names a column of it.
func (m maker) leaf(s scope, kind int) api.Expr {
	var l []api.Expr
	for _, p := range s.places {
		if p.kinds == setOf(kind) {
			l = append(l, of(p.table, p.name), of(p.table, p.name), name(p.name))
		}
	}
	if len(l) > 0 && !m.rarely(4) {
		return one(m, l...)
	}
	switch kind {
	case api.TInt:
		return one(m, num(m.Intn(5)-2), num(1<<62), null())
	case api.TText:
		return one(m, text("a"), text(""), null())
	case api.TBool:
		return one(m, truth(true), truth(false), null())
	}
	return null()
}

// any makes whatever.
func (m maker) any(s scope, depth int) api.Expr {
	var kids []api.Expr
	if depth > 0 {
		for range m.Intn(4) {
			kids = append(kids, m.expr(s, m.Intn(4), depth-1))
		}
	}
	switch m.Intn(8) {
	case 0:
		return name(one(m, "a", "b", "z", "t"))
	case 1:
		return of(one(m, "t", "u", "z"), one(m, "a", "b", "z"))
	case 2:
		return api.Expr{Op: api.XAgg, Name: one(m, "count", "sum", "min", "avg"), Star: m.rarely(2), Kids: kids}
	case 3:
		return call(one(m, "length", "abs", "coalesce", "foo"), kids...)
	case 4:
		return one(m, leaves()...)
	case 5:
		return m.expr(s, m.Intn(4), max(depth-1, 0))
	}
	e := one(m, headless()...)
	e.Kids = kids
	return e
}

// TestDeeperForms: forms within forms, right ones and wrong ones.
func TestDeeperForms(t *testing.T) { // 20.1
	m := maker{newRand(20)}
	seen := map[api.Errno]int{}
	for range 60000 {
		from := m.tables()
		names := []string{"t", "u", "v", "w"}[:len(from)]
		if len(names) > 1 && m.rarely(9) {
			names[1] = "t"
		}
		s := scope{places(from, names), m.rarely(2), one(m, 0, 10, 30)}
		seen[compared(t, m.expr(s, m.Intn(4), 1+m.Intn(4)), from, names, s.aggs != m.rarely(10))]++
	}
	for _, err := range []api.Errno{api.OK, api.ErrName, api.ErrType, api.ErrAgg, api.ErrArg} {
		if seen[err] < 500 {
			t.Errorf("only %d of %d", seen[err], err)
		}
	}
}
