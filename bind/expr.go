package bind

import "palimpsest/api"

// clause binds an expression of one clause, and tells its type.
type clause func(e api.Expr) (api.Expr, int, api.Errno)

// naming tells how a clause is bound: it holds the columns of which tables, called how, may be named there, and whether aggregates may.
func naming(from []api.Table, names []string, aggs bool) clause {
	column := func(e api.Expr) (x api.Expr, kind int, err api.Errno) {
		n := 0
		for t, table := range from {
			if e.Table != "" && e.Table != names[t] {
				continue
			}
			for c, col := range table.Cols {
				if col.Name == e.Name {
					x, kind = api.Expr{Op: api.XCol, T: t, C: c}, col.Type
					n++
				}
			}
		}
		if n != 1 {
			return api.Expr{}, 0, api.ErrName
		}
		return x, kind, api.OK
	}
	return func(e api.Expr) (api.Expr, int, api.Errno) {
		return upwards(e, aggs, column)
	}
}

// form is an expression that is under way.
type form struct {
	e    *api.Expr
	next int  // the kid that is to be bound next
	aggs bool // whether an aggregate may stand here
}

// upwards binds the leaves of an expression, then what they lie in. The forms under way stand in a list: a tree can be too deep for a call within a call.
func upwards(e api.Expr, aggs bool, column clause) (api.Expr, int, api.Errno) {
	x := newExpr(e)
	within := []form{{e: &x, aggs: aggs}}
	var kinds []int // of the kids that are bound, the innermost form's last
	for len(within) > 0 {
		f := &within[len(within)-1]
		if f.next < len(f.e.Kids) {
			f.next++
			within = append(within, form{e: &f.e.Kids[f.next-1], aggs: f.aggs && f.e.Op != api.XAgg})
			continue
		}
		outer := len(kinds) - f.next
		kind, err := f.bind(kinds[outer:], column)
		if err != api.OK {
			return api.Expr{}, 0, err
		}
		kinds = append(kinds[:outer], kind)
		within = within[:len(within)-1]
	}
	return x, kinds[0], api.OK
}

// bind binds a form whose kids are bound, and of these types.
func (f *form) bind(kinds []int, column clause) (kind int, err api.Errno) {
	if !whole(*f.e) {
		return 0, api.ErrArg
	}
	switch f.e.Op {
	case api.XName:
		*f.e, kind, err = column(*f.e)
		return kind, err
	case api.XLit:
		return f.e.V.Type, api.OK
	case api.XAgg:
		if !f.aggs {
			return 0, api.ErrAgg
		}
		return aggregate(f.e.Name, kinds)
	case api.XCall:
		return call(f.e.Name, kinds)
	case api.XAdd, api.XSub, api.XMul, api.XDiv, api.XMod, api.XNeg:
		return made(api.TInt, api.TInt, kinds)
	case api.XCat:
		return made(api.TText, api.TText, kinds)
	case api.XAnd, api.XOr, api.XNot:
		return made(api.TBool, api.TBool, kinds)
	case api.XIsNull:
		return api.TBool, api.OK
	}
	return made(api.TBool, 0, kinds) // what holds values against each other asks for one type, whichever
}

// whole tells whether a form is one that can be read, but a column's place: that it has the kids that it must have, an aggregate its name, and a literal its type.
func whole(e api.Expr) bool {
	n := len(e.Kids)
	switch e.Op {
	case api.XLit:
		return n == 0 && api.TNull <= e.V.Type && e.V.Type <= api.TBool
	case api.XName:
		return n == 0
	case api.XAgg:
		if e.Star {
			return n == 0 && e.Name == "count"
		}
		return n == 1 && (e.Name == "count" || e.Name == "sum" || e.Name == "min" || e.Name == "max")
	case api.XCall:
		return n >= 1
	case api.XNot, api.XIsNull, api.XNeg:
		return n == 1
	case api.XIn:
		return n >= 2
	case api.XBetween:
		return n == 3
	case api.XOr, api.XAnd, api.XEq, api.XNe, api.XLt, api.XLe, api.XGt, api.XGe,
		api.XAdd, api.XSub, api.XMul, api.XDiv, api.XMod, api.XCat:
		return n == 2
	}
	return false
}

// aggregate tells the type of what an aggregate makes of a kid.
func aggregate(name string, kinds []int) (int, api.Errno) {
	switch name {
	case "count":
		return api.TInt, api.OK
	case "sum":
		return made(api.TInt, api.TInt, kinds)
	}
	return kinds[0], api.OK
}

// call tells the type of what a function makes of its kids.
func call(name string, kinds []int) (int, api.Errno) {
	of := 0
	switch name {
	case "coalesce":
		kind, ok := joined(0, kinds)
		if !ok {
			return 0, api.ErrType
		}
		return kind, api.OK
	case "length":
		of = api.TText
	case "abs":
		of = api.TInt
	default:
		return 0, api.ErrName
	}
	if len(kinds) != 1 {
		return 0, api.ErrType
	}
	return made(api.TInt, of, kinds)
}

// made tells that a form is of that kind, if its kids fit a type.
func made(kind, of int, kinds []int) (int, api.Errno) {
	if _, ok := joined(of, kinds); !ok {
		return 0, api.ErrType
	}
	return kind, api.OK
}

// joined tells the one type that a type and others are of. Null is of every type: 0 fits them all.
func joined(kind int, others []int) (int, bool) {
	for _, k := range others {
		if k != 0 && kind != 0 && k != kind {
			return 0, false
		}
		if kind == 0 {
			kind = k
		}
	}
	return kind, true
}
