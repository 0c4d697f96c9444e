package parse_test

import (
	"math/rand"
	"reflect"
	"slices"
	"strings"
	"testing"

	"palimpsest/api"
	"palimpsest/lex"
	"palimpsest/parse"
)

// A second reading of 19.1, by two stacks: what is waiting for a kid, and kids.

// open is a form that waits for its last kid, or for its closing parenthesis.
type open struct {
	op       int    // 0 is a group
	strength int    // 1 OR, 2 AND, 3 NOT, 4 comparisons, 5 sums, 6 products, 7 minus; 0 of what a parenthesis closes
	name     string // of a call
	kids     int    // of a list, so many are there
	low      bool   // a BETWEEN whose AND is still to come
	not      bool
	counts   bool
}

type yard struct {
	stack []open
	kids  []api.Expr
	done  bool // behind IS NULL or IN, which no sign but AND and OR may follow
	err   api.Errno
	at    int
}

func (y *yard) top() open {
	if len(y.stack) == 0 {
		return open{}
	}
	return y.stack[len(y.stack)-1]
}

func (y *yard) fault(e api.Errno, at int) bool {
	y.err, y.at = e, at
	return false
}

// push opens a form that begins at a place, and tells whether it is not too deep.
func (y *yard) push(o open, at int) bool {
	if o.counts {
		n := 0
		for _, x := range y.stack {
			if x.counts {
				n++
			}
		}
		if n >= 24 {
			return y.fault(api.ErrDeep, at)
		}
	}
	y.stack = append(y.stack, o)
	return true
}

// pop takes so many kids.
func (y *yard) pop(n int) []api.Expr {
	l := slices.Clone(y.kids[len(y.kids)-n:])
	y.kids = y.kids[:len(y.kids)-n]
	return l
}

// shut ends what is of that strength or a stronger one.
func (y *yard) shut(strength int) {
	for len(y.stack) > 0 && y.top().strength >= strength {
		o := y.top()
		y.stack = y.stack[:len(y.stack)-1]
		n := 2
		switch o.op {
		case api.XNot, api.XNeg:
			n = 1
		case api.XBetween:
			n = 3
		}
		y.kids = append(y.kids, api.Expr{Op: o.op, Not: o.not, Kids: y.pop(n)})
	}
}

// model reads tokens as one expression.
func model(l []api.Token) (api.Expr, api.Errno, int) {
	y := &yard{}
	i := 0
	for {
		if i = y.operand(l, i); i < 0 {
			return api.Expr{}, y.err, y.at
		}
		again := false
		for !again {
			if l[i].Kind == api.KEnd {
				y.shutAll(l[i])
				if y.err == api.OK && len(y.stack) > 0 {
					y.fault(api.ErrSyntax, l[i].At)
				}
				if y.err != api.OK {
					return api.Expr{}, y.err, y.at
				}
				return y.kids[0], api.OK, 0
			}
			if i, again = y.behind(l, i); i < 0 {
				return api.Expr{}, y.err, y.at
			}
		}
	}
}

// shutAll ends all up to the innermost parenthesis; a fault, if a BETWEEN waits there for its AND.
func (y *yard) shutAll(t api.Token) bool {
	y.shut(5)
	if y.top().low {
		return y.fault(api.ErrSyntax, t.At)
	}
	y.shut(1)
	y.done = false
	return true
}

// word tells a word's or sign's text.
func word(t api.Token) string {
	if t.Kind == api.KWord || t.Kind == api.KSign {
		return t.Text
	}
	return "'"
}

func isName(t api.Token) bool { return t.Kind == api.KWord && lex.Name(t.Text) }

// operand reads where an expression may begin, up to what can stand behind one; below 0, if something is wrong.
func (y *yard) operand(l []api.Token, i int) int {
	for {
		t := l[i]
		good := true
		switch s := word(t); {
		case s == "not" && y.top().strength < 4:
			good = y.push(open{op: api.XNot, strength: 3, counts: true}, t.At)
			i++
		case s == "-":
			good = y.push(open{op: api.XNeg, strength: 7, counts: true}, t.At)
			i++
		case s == "(":
			good = y.push(open{counts: true}, t.At)
			i++
		case slices.Contains([]string{"count", "sum", "min", "max", "length", "coalesce"}, s) || isName(t) && word(l[i+1]) == "(":
			o := open{op: api.XCall, name: s, counts: true}
			if slices.Contains([]string{"count", "sum", "min", "max"}, s) {
				o.op = api.XAgg
			}
			if !y.push(o, t.At) {
				return -1
			}
			if word(l[i+1]) != "(" {
				y.fault(api.ErrSyntax, l[i+1].At)
				return -1
			}
			i += 2
			if s == "count" && word(l[i]) == "*" {
				if word(l[i+1]) != ")" {
					y.fault(api.ErrSyntax, l[i+1].At)
					return -1
				}
				y.stack = y.stack[:len(y.stack)-1]
				y.kids = append(y.kids, star())
				return i + 2
			}
		default:
			return y.leaf(l, i)
		}
		if !good {
			return -1
		}
	}
}

func (y *yard) leaf(l []api.Token, i int) int {
	t := l[i]
	e := name(t.Text)
	switch {
	case t.Kind == api.KInt:
		e = num(t.Int)
	case t.Kind == api.KText:
		e = text(t.Text)
	case word(t) == "null":
		e = null()
	case word(t) == "true":
		e = truth(true)
	case word(t) == "false":
		e = truth(false)
	case !isName(t):
		y.fault(api.ErrSyntax, t.At)
		return -1
	case word(l[i+1]) == ".":
		if !isName(l[i+2]) {
			y.fault(api.ErrSyntax, l[i+2].At)
			return -1
		}
		e = of(t.Text, l[i+2].Text)
		i += 2
	}
	y.kids = append(y.kids, e)
	return i + 1
}

// behind reads what stands behind an expression, and tells whether one must follow.
func (y *yard) behind(l []api.Token, i int) (int, bool) {
	t := l[i]
	wrong := func(t api.Token) (int, bool) {
		y.fault(api.ErrSyntax, t.At)
		return -1, false
	}
	s := word(t)
	for _, x := range signs() {
		if strings.ToLower(x.text) != s {
			continue
		}
		switch {
		case x.strength == 2:
			y.shut(5)
			if y.top().low {
				y.stack[len(y.stack)-1].low = false
				return i + 1, true
			}
			y.done = false
			y.shut(2)
		case x.strength == 1:
			y.shut(5)
			if y.top().low {
				return wrong(t)
			}
			y.done = false
			y.shut(1)
		case y.done:
			return wrong(t)
		case x.strength == 4:
			y.shut(5)
			if y.top().strength == 4 {
				return wrong(t)
			}
		default:
			y.shut(x.strength)
		}
		y.push(open{op: x.op, strength: x.strength}, t.At)
		return i + 1, true
	}
	switch s {
	case ")", ",":
		return y.close(t, i)
	case "is", "in", "between", "not":
		y.shut(5)
		if y.done || y.top().strength == 4 {
			return wrong(t)
		}
		return y.special(l, i)
	}
	return wrong(t)
}

// close reads a closing parenthesis, or the comma of a list.
func (y *yard) close(t api.Token, i int) (int, bool) {
	if !y.shutAll(t) {
		return -1, false
	}
	o := y.top()
	if len(y.stack) == 0 || t.Text == "," && o.op != api.XCall && o.op != api.XIn {
		y.fault(api.ErrSyntax, t.At)
		return -1, false
	}
	y.stack[len(y.stack)-1].kids++
	if t.Text == "," {
		return i + 1, true
	}
	y.stack = y.stack[:len(y.stack)-1]
	switch o.op {
	case api.XCall, api.XAgg:
		y.kids = append(y.kids, api.Expr{Op: o.op, Name: o.name, Kids: y.pop(o.kids + 1)})
	case api.XIn:
		y.kids = append(y.kids, api.Expr{Op: o.op, Not: o.not, Kids: y.pop(o.kids + 2)})
		y.done = true
	}
	return i + 1, false
}

// special reads IS, IN and BETWEEN.
func (y *yard) special(l []api.Token, i int) (int, bool) {
	wrong := func(t api.Token) (int, bool) {
		y.fault(api.ErrSyntax, t.At)
		return -1, false
	}
	is := word(l[i]) == "is"
	if is {
		i++
	}
	not := word(l[i]) == "not"
	if not {
		i++
	}
	if is {
		if word(l[i]) != "null" {
			return wrong(l[i])
		}
		y.kids = append(y.kids, api.Expr{Op: api.XIsNull, Not: not, Kids: y.pop(1)})
		y.done = true
		return i + 1, false
	}
	switch word(l[i]) {
	case "in":
		if word(l[i+1]) != "(" {
			return wrong(l[i+1])
		}
		if !y.push(open{op: api.XIn, not: not, counts: true}, l[i+1].At) {
			return -1, false
		}
		return i + 2, true
	case "between":
		y.push(open{op: api.XBetween, strength: 4, low: true, not: not}, 0)
		return i + 1, true
	}
	return wrong(l[i])
}

// asModel wants a text to be read as the model reads it, and tells what that is.
func asModel(t *testing.T, s string) (api.Errno, int) {
	t.Helper()
	l, err, at := lex.Words(s)
	var e api.Expr
	if err == api.OK {
		e, err, at = model(l)
	}
	x, gotErr, gotAt := parse.Expr(s)
	if gotErr != err || gotAt != at || !reflect.DeepEqual(x, e) {
		t.Fatalf("Expr(%q) = %s, %d, %d; want %s, %d, %d", s, brief(x), gotErr, gotAt, brief(e), err, at)
	}
	if err == api.OK {
		comesBack(t, x)
	}
	return err, at
}

// comesBack wants what Expr told to be spelt so that it is read again, where that is neither too long nor too deep.
func comesBack(t *testing.T, e api.Expr) { // 19.4, W7
	t.Helper()
	s := parse.Text(e)
	x, err, at := parse.Expr(s)
	if err == api.ErrDeep || err == api.ErrLong && len(s) > api.MaxText {
		return
	}
	if err != api.OK || !reflect.DeepEqual(x, e) {
		t.Fatalf("Expr(%q) = %s, %d, %d", s, brief(x), err, at)
	}
}

// grow reads all texts of so many tokens that begin with s: those that are wrong ahead of their end are not gone on with, as what follows makes no difference.
func grow(t *testing.T, s string, tokens []string, left int) int {
	t.Helper()
	n := 1
	err, at := asModel(t, s)
	if left == 0 || err == api.ErrDeep || err == api.ErrSyntax && at < len(s) {
		return n
	}
	for _, x := range tokens {
		n += grow(t, s+" "+x, tokens, left-1)
	}
	return n
}

func TestEveryShortExpression(t *testing.T) { // 19.1
	many := strings.Fields("a 1 'x' null ( ) , . and or not = < is in between + || * - count sum length f ; true select !")
	n := grow(t, "", many, 5)
	n += grow(t, "", strings.Fields("a ( ) , and not = in between -"), 7)
	n += grow(t, "a in (", strings.Fields("a ( ) , or = in f * count"), 5)
	n += grow(t, "a between b", strings.Fields("a ( ) and or not = between is null in + -"), 5)
	n += grow(t, "not a is", strings.Fields("a ( ) and or not = is null in between"), 5)
	if n < 300000 {
		t.Errorf("%d texts", n)
	}
}

// TestEveryShortExpressionDeepWithin: those behind some twenty forms that are open.
func TestEveryShortExpressionDeepWithin(t *testing.T) { // 19.1, 19.2
	tokens := strings.Fields("a ( ) , and not = in between - count f * 1")
	for _, l := range turns() {
		for _, n := range []int{23, 24} {
			s := ""
			for i := range n {
				s += l[i%len(l)].open
			}
			grow(t, s, tokens, 24-n+1)
		}
	}
	for _, x := range []string{"(", "not ", "- ", "f(", "a in (", "min("} {
		grow(t, strings.Repeat(x, 24), tokens, 3)
	}
}

// viable tells whether a text is an expression, or could become one by what follows.
func viable(t *testing.T, s string) (is, whole bool) {
	t.Helper()
	err, at := asModel(t, s)
	return err == api.OK || err == api.ErrSyntax && at == len(s), err == api.OK
}

// ended goes on with a text by what fits until it is an expression.
func ended(t *testing.T, s string) (string, bool) {
	for range 60 {
		if _, whole := viable(t, s); whole {
			return s, true
		}
		for _, x := range []string{")", "a", "null", "and a", "(a)", "in (a)"} {
			if is, _ := viable(t, s+" "+x); is {
				s += " " + x
				break
			}
		}
	}
	return s, false
}

// TestLongExpressions: texts that grow by what fits, with now and then a token changed, gone, or put in.
func TestLongExpressions(t *testing.T) { // 19.1, 19.5
	g := rand.New(rand.NewSource(4))
	tokens := strings.Fields("a b1 1 'x' null true ( ) ( ) ( ) , . and or not = <> < is null in ( between and + - || * / % - count sum ( length f ( * ; select")
	right := 0
	for range 600 {
		s := ""
		for range g.Intn(250) {
			x := s + " " + tokens[g.Intn(len(tokens))]
			if is, _ := viable(t, x); is {
				s = x
			}
		}
		s, whole := ended(t, s)
		if whole {
			right++
		}
		for range 10 {
			l := strings.Fields(s)
			i := g.Intn(len(l))
			switch g.Intn(3) {
			case 0:
				l[i] = tokens[g.Intn(len(tokens))]
			case 1:
				l = slices.Delete(l, i, i+1)
			case 2:
				l = slices.Insert(l, i, tokens[g.Intn(len(tokens))])
			}
			asModel(t, strings.Join(l, " "))
			asModel(t, strings.Join(l, ""))
		}
	}
	if right < 550 {
		t.Errorf("%d texts were right", right)
	}
}

// TestWhateverBytes: each text is answered, by a tree or by an error with a place within it; and so is each as a statement.
func TestWhateverBytes(t *testing.T) { // 19.5, W12
	g := rand.New(rand.NewSource(5))
	words := append(reserved(), strings.Fields("a b t 1 'x' ( ) ( ) , . = <> - + * || ; ! ' -- 9223372036854775808 abs")...)
	for n := range 60000 {
		b := make([]byte, g.Intn(80))
		for i := range b {
			b[i] = byte(g.Intn(256))
		}
		s := string(b)
		if n%3 > 0 {
			s = ""
			for range g.Intn(14) {
				s += words[g.Intn(len(words))] + []string{" ", "", "\n"}[g.Intn(3)]
			}
		}
		asModel(t, s)
		x, err, at := parse.Statement(s)
		switch {
		case err == api.OK && (at != 0 || x.Kind < api.SCreate || x.Kind > api.SRelease):
			t.Fatalf("Statement(%q) = %s, %d", s, brief(x), at)
		case err != api.OK && (err != api.ErrSyntax || at < 0 || at > len(s) || !reflect.DeepEqual(x, api.Stmt{})):
			t.Fatalf("Statement(%q) = %s, %d, %d", s, brief(x), err, at)
		}
	}
	for _, n := range []int{4095, 4096, 4097, 1 << 20} {
		for _, x := range []string{"(", "-", "- ", "not ", "a ", "a+", "a.", "a,", "f(", "count(", "a in (", "a between ", "a and ", "'", ";", "select ", "\x00"} {
			s := strings.Repeat(x, n/len(x)+1)[:n]
			asModel(t, s)
			parse.Statement(s)
			parse.Statement("select " + s)
			parse.Statement("insert into t values (" + s)
		}
	}
}
