package parse

import (
	"math"
	"slices"
	"strconv"
	"strings"

	"palimpsest/api"
	"palimpsest/value"
)

// spelling is what is still to be told of a form: its pieces, and between each two of them a kid.
type spelling struct {
	pieces []string
	kids   []api.Expr
}

// Text spells an expression, fully in parentheses. The forms that it is within stand in a list: a tree can be too deep for a call within a call.
func Text(e api.Expr) string {
	var b strings.Builder
	within := []spelling{{pieces(e), e.Kids}}
	for len(within) > 0 {
		last := &within[len(within)-1]
		b.WriteString(last.pieces[0])
		last.pieces = last.pieces[1:]
		if len(last.pieces) == 0 {
			within = within[:len(within)-1]
			continue
		}
		kid := last.kid()
		within = append(within, spelling{pieces(kid), kid.Kids})
	}
	return b.String()
}

// kid takes the next kid. One that is missing is the expression that has no text.
func (s *spelling) kid() (e api.Expr) {
	if len(s.kids) > 0 {
		e, s.kids = s.kids[0], s.kids[1:]
	}
	return e
}

// pieces tells a form's text but its kids': what stands ahead of the first, between each two, and behind the last. There is one piece at least.
func pieces(e api.Expr) []string {
	switch e.Op {
	case api.XLit:
		return []string{spelt(e.V)}
	case api.XName:
		return []string{qualified(e)}
	case api.XCol:
		return []string{"#" + strconv.Itoa(e.T) + "." + strconv.Itoa(e.C)}
	case api.XAgg, api.XCall:
		if e.Op == api.XAgg && e.Star {
			return []string{capital(e.Name) + "(*)"}
		}
		return around(capital(e.Name)+"(", len(e.Kids), ")")
	case api.XNot:
		return []string{"(NOT ", ")"}
	case api.XNeg:
		return []string{"(- ", ")"}
	case api.XIsNull:
		return []string{"(", " IS" + not(e) + " NULL)"}
	case api.XIn:
		return append([]string{"("}, around(not(e)+" IN (", len(e.Kids)-1, "))")...)
	case api.XBetween:
		return []string{"(", not(e) + " BETWEEN ", " AND ", ")"}
	}
	if s := between(e.Op); s != "" {
		return []string{"(", " " + capital(s) + " ", ")"}
	}
	return []string{""}
}

// around tells the pieces around n kids with commas between; around one that is missing, if n is less.
func around(ahead string, n int, behind string) []string {
	l := append([]string{ahead}, slices.Repeat([]string{", "}, max(n-1, 0))...)
	return append(l, behind)
}

func not(e api.Expr) string {
	if e.Not {
		return " NOT"
	}
	return ""
}

func qualified(e api.Expr) string {
	if e.Table == "" {
		return e.Name
	}
	return e.Table + "." + e.Name
}

// spelt tells a literal. A number below 0 is none in a statement: it is what a sign makes of one, and the least of what is one above it.
func spelt(v api.Value) string {
	switch {
	case v.Type != api.TInt || v.Int >= 0:
		return value.Text(v)
	case v.Int == math.MinInt:
		return "((- " + strconv.Itoa(math.MaxInt) + ") - 1)"
	}
	return "(- " + strconv.Itoa(-v.Int) + ")"
}

// capital tells a word in capital letters. Those are A to Z, and all other bytes stay.
func capital(s string) string {
	b := []byte(s)
	for i, c := range b {
		if 'a' <= c && c <= 'z' {
			b[i] = c - 'a' + 'A'
		}
	}
	return string(b)
}
