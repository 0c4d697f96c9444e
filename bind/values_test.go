package bind_test

import (
	"math"
	"testing"

	"palimpsest/api"
	"palimpsest/bind"
	"palimpsest/value"
)

// rows makes a row of each table: of each column a value of its type, or null.
func (m maker) rows(from []api.Table) [][]api.Value {
	var l [][]api.Value
	for _, t := range from {
		var row []api.Value
		for _, c := range t.Cols {
			v := api.Value{Type: c.Type}
			switch {
			case c.Type > api.TBool || m.rarely(5):
				v = api.Value{}
			case c.Type == api.TInt:
				v.Int = one(m, 0, 1, -1, m.Intn(20)-10, math.MaxInt, math.MinInt)
			case c.Type == api.TText:
				v.Text = one(m, "", "a", "b", "ab")
			case c.Type == api.TBool:
				v.Bool = m.rarely(2)
			}
			row = append(row, v)
		}
		l = append(l, row)
	}
	return l
}

// fault is an error on the way to a value.
type fault struct{ api.Errno }

func sure(v api.Value, err api.Errno) api.Value {
	if err != api.OK {
		panic(fault{err})
	}
	return v
}

// worth tells what a bound expression is worth over rows; an aggregate is over two rows that are alike.
func worth(e api.Expr, rows [][]api.Value) api.Value {
	var l []api.Value
	for _, k := range e.Kids {
		l = append(l, worth(k, rows))
	}
	v := api.Value{}
	switch e.Op {
	case api.XLit:
		return e.V
	case api.XCol:
		return rows[e.T][e.C]
	case api.XAgg:
		switch {
		case e.Name == "count":
			return api.Value{Type: api.TInt, Int: 2}
		case e.Name == "sum":
			return sure(value.Sum(append(l, l...)))
		}
		return l[0]
	case api.XCall:
		return sure(value.Call(e.Name, l))
	case api.XOr:
		return sure(value.Or(l[0], l[1]))
	case api.XAnd:
		return sure(value.And(l[0], l[1]))
	case api.XNot:
		return sure(value.Not(l[0]))
	case api.XNeg:
		return sure(value.Neg(l[0]))
	case api.XIsNull:
		return api.Value{Type: api.TBool, Bool: (l[0].Type == 0) != e.Not}
	case api.XIn:
		v = api.Value{Type: api.TBool}
		for _, x := range l[1:] {
			v = sure(value.Or(v, sure(value.Less(api.XEq, l[0], x))))
		}
	case api.XBetween:
		v = sure(value.And(sure(value.Less(api.XLe, l[1], l[0])), sure(value.Less(api.XLe, l[0], l[2]))))
	case api.XEq, api.XNe, api.XLt, api.XLe, api.XGt, api.XGe:
		return sure(value.Less(e.Op, l[0], l[1]))
	default:
		return sure(value.Math(e.Op, l[0], l[1]))
	}
	if e.Not {
		v = sure(value.Not(v))
	}
	return v
}

func tried(e api.Expr, rows [][]api.Value) (v api.Value, err api.Errno) {
	defer func() {
		switch f := recover().(type) {
		case nil:
		case fault:
			err = f.Errno
		default:
			panic(f)
		}
	}()
	return worth(e, rows), api.OK
}

// TestWorth: what is of one type is worth a value of that type, or null, or no number.
func TestWorth(t *testing.T) { // 20.4
	m := maker{newRand(51)}
	seen := map[int]int{}
	for range 60000 {
		from := m.tables()
		names := []string{"t", "u", "v", "w"}[:len(from)]
		e, kind, err := bind.Expr(m.expr(scope{places(from, names), m.rarely(3), one(m, 0, 0, 30)}, m.Intn(4), 3), from, names, true)
		if err != api.OK {
			continue
		}
		for range 3 {
			rows := m.rows(from)
			v, err := tried(e, rows)
			if err != api.OK && err != api.ErrOverflow && err != api.ErrZero || v.Type != 0 && v.Type != kind {
				t.Fatalf("%s is of type %d, and over %s worth %s, %d", brief(e), kind, brief(rows), brief(v), err)
			}
			if err == api.OK && v.Type != 0 {
				seen[kind]++
			}
		}
	}
	for kind := api.TInt; kind <= api.TBool; kind++ {
		if seen[kind] < 5000 {
			t.Errorf("only %d of type %d", seen[kind], kind)
		}
	}
}
