package parse

import "palimpsest/api"

// expr reads an expression. It is of the weakest line; each line's forms lie around those of the next one.
func (w *words) expr() api.Expr {
	return w.chain(w.conjunction, api.XOr)
}

func (w *words) conjunction() api.Expr {
	return w.chain(w.negation, api.XAnd)
}

func (w *words) negation() api.Expr {
	if w.is("not") {
		return w.ahead(api.XNot, w.negation)
	}
	return w.comparison()
}

// comparison reads one sign at most: a second one finds nobody who takes it.
func (w *words) comparison() api.Expr {
	a := w.sum()
	if op := w.sign(api.XEq, api.XNe, api.XLt, api.XLe, api.XGt, api.XGe); op != 0 {
		return form(op, a, w.sum())
	}
	if w.take("is") {
		e := form(api.XIsNull, a)
		e.Not = w.take("not")
		w.need("null")
		return e
	}
	not := w.take("not")
	if not || w.is("in") || w.is("between") {
		e := w.within(a)
		e.Not = not
		return e
	}
	return a
}

// within reads IN or BETWEEN, one of which must be there, and what stands behind.
func (w *words) within(a api.Expr) api.Expr {
	if w.take("in") {
		return form(api.XIn, append([]api.Expr{a}, w.among()...)...)
	}
	w.need("between")
	low := w.sum()
	w.need("and")
	return form(api.XBetween, a, low, w.sum())
}

// among reads the list of an IN.
func (w *words) among() []api.Expr {
	if w.is("(") { // else no form is there that could lie too deep
		w.down()
	}
	l := enclosed(w, w.expr)
	w.up()
	return l
}

func (w *words) sum() api.Expr {
	return w.chain(w.product, api.XAdd, api.XSub, api.XCat)
}

func (w *words) product() api.Expr {
	return w.chain(w.minus, api.XMul, api.XDiv, api.XMod)
}

func (w *words) minus() api.Expr {
	if w.is("-") {
		return w.ahead(api.XNeg, w.minus)
	}
	return w.operand()
}

func (w *words) operand() api.Expr {
	t := w.rest[0]
	switch {
	case t.Kind == api.KInt:
		return literal(api.Value{Type: api.TInt, Int: w.next().Int})
	case t.Kind == api.KText:
		return literal(api.Value{Type: api.TText, Text: w.next().Text})
	case w.take("null"):
		return literal(api.Value{})
	case w.take("true"):
		return literal(api.Value{Type: api.TBool, Bool: true})
	case w.take("false"):
		return literal(api.Value{Type: api.TBool})
	case w.is("("):
		return w.group()
	case w.is("count"), w.is("sum"), w.is("min"), w.is("max"):
		return w.aggregate()
	case w.is("length"), w.is("coalesce"), w.named() && spells(w.rest[1], "("):
		return w.call()
	}
	return w.column()
}

func (w *words) group() api.Expr {
	w.down()
	w.need("(")
	e := w.expr()
	w.need(")")
	w.up()
	return e
}

func (w *words) aggregate() api.Expr {
	w.down()
	e := api.Expr{Op: api.XAgg, Name: w.next().Text}
	w.need("(")
	if e.Name == "count" && w.take("*") {
		e.Star = true
	} else {
		e.Kids = []api.Expr{w.expr()}
	}
	w.need(")")
	w.up()
	return e
}

func (w *words) call() api.Expr {
	w.down()
	e := api.Expr{Op: api.XCall, Name: w.next().Text}
	e.Kids = enclosed(w, w.expr)
	w.up()
	return e
}

// column reads a column's name, perhaps behind its table's.
func (w *words) column() api.Expr {
	e := api.Expr{Op: api.XName, Name: w.name()}
	if w.take(".") {
		e.Table, e.Name = e.Name, w.name()
	}
	return e
}

// chain reads forms of one line, and puts them together from the left.
func (w *words) chain(read func() api.Expr, ops ...int) api.Expr {
	e := read()
	for {
		op := w.sign(ops...)
		if op == 0 {
			return e
		}
		e = form(op, e, read())
	}
}

// ahead reads a form whose sign, the next token, stands ahead of its one kid.
func (w *words) ahead(op int, read func() api.Expr) api.Expr {
	w.down()
	w.next()
	e := form(op, read())
	w.up()
	return e
}

// sign takes what stands between the kids of one of the ops, and tells of which: 0, if the next token is none of that.
func (w *words) sign(ops ...int) int {
	for _, op := range ops {
		if w.take(between(op)) {
			return op
		}
	}
	return 0
}

// between tells what stands between the kids of a form of two, in small letters; nothing of others.
func between(op int) string {
	switch op {
	case api.XOr:
		return "or"
	case api.XAnd:
		return "and"
	case api.XEq:
		return "="
	case api.XNe:
		return "<>"
	case api.XLt:
		return "<"
	case api.XLe:
		return "<="
	case api.XGt:
		return ">"
	case api.XGe:
		return ">="
	case api.XAdd:
		return "+"
	case api.XSub:
		return "-"
	case api.XMul:
		return "*"
	case api.XDiv:
		return "/"
	case api.XMod:
		return "%"
	case api.XCat:
		return "||"
	}
	return ""
}

func form(op int, kids ...api.Expr) api.Expr {
	return api.Expr{Op: op, Kids: kids}
}

func literal(v api.Value) api.Expr {
	return api.Expr{Op: api.XLit, V: v}
}
