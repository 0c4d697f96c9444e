package value_test

import (
	"fmt"
	"math"
	"slices"
	"strings"
	"testing"

	"palimpsest/api"
	"palimpsest/value"
)

const least, most = math.MinInt, math.MaxInt

func num(n int) api.Value     { return api.Value{Type: api.TInt, Int: n} }
func text(s string) api.Value { return api.Value{Type: api.TText, Text: s} }
func truth(b bool) api.Value  { return api.Value{Type: api.TBool, Bool: b} }
func kind(n int) api.Value    { return api.Value{Type: n} }

var null, no, yes = api.Value{}, truth(false), truth(true)

// none are Types that the chapter does not tell; some of them are a told one again, if only their lowest bits are minded.
func none() []int {
	return []int{least, -1 << 32, -256, -3, -2, -1, 4, 5, 9, 255, 256, 257, 258, 259, 1 << 32, 1<<32 + 1, most}
}

// numeric are the operations of numbers.
func numeric() []int {
	return []int{api.XAdd, api.XSub, api.XMul, api.XDiv, api.XMod}
}

func comparisons() []int {
	return []int{api.XEq, api.XNe, api.XLt, api.XLe, api.XGt, api.XGe}
}

// ops are all numbers near those of the expressions' forms, and some far away.
func ops() []int {
	l := []int{least, -1 << 32, -256, 255, 256 + api.XAdd, 256 + api.XEq, 1<<32 + api.XAdd, 1<<32 + api.XEq, most}
	for op := -api.XNeg - 2; op <= api.XNeg+2; op++ {
		l = append(l, op)
	}
	return l
}

// told is what a call told.
type told struct {
	v api.Value
	e api.Errno
}

func tell(v api.Value, e api.Errno) told { return told{v, e} }
func gives(v api.Value) told             { return told{v, api.OK} }
func fails(e api.Errno) told             { return told{api.Value{}, e} }

// check holds what was told against what the chapter asks.
func check(t *testing.T, got, want told, what ...any) {
	t.Helper()
	if got != want {
		asked := fmt.Sprint(what...)
		t.Errorf("%.300q: %#v, %d; want %#v, %d", asked, got.v, got.e, want.v, want.e) // lists can be very long
	}
}

func math2(t *testing.T, op int, a, b api.Value, want told) {
	t.Helper()
	check(t, tell(value.Math(op, a, b)), want, "Math", op, a, b)
}

func less(t *testing.T, op int, a, b api.Value, want told) {
	t.Helper()
	check(t, tell(value.Less(op, a, b)), want, "Less", op, a, b)
}

func call(t *testing.T, name string, want told, l ...api.Value) {
	t.Helper()
	check(t, tell(value.Call(name, l)), want, "Call", name, l)
}

func sum(t *testing.T, want told, l ...api.Value) {
	t.Helper()
	check(t, tell(value.Sum(l)), want, "Sum", l)
}

func TestExamples(t *testing.T) { // the chapter's table
	math2(t, api.XDiv, num(-7), num(2), gives(num(-3)))
	math2(t, api.XMod, num(-7), num(2), gives(num(-1)))
	check(t, tell(value.And(null, no)), gives(no), "And")
	check(t, tell(value.Or(null, no)), gives(null), "Or")
	math2(t, api.XDiv, num(least), num(-1), fails(api.ErrOverflow))
	math2(t, api.XMod, num(least), num(-1), gives(num(0)))
}

func TestMathOfNumbers(t *testing.T) { // 16.1
	over := fails(api.ErrOverflow)
	for _, x := range []struct {
		op, a, b int
		want     told
	}{
		{api.XAdd, 2, 3, gives(num(5))}, {api.XAdd, -2, 3, gives(num(1))}, {api.XAdd, 2, -3, gives(num(-1))}, {api.XAdd, 0, 0, gives(num(0))},
		{api.XSub, 2, 3, gives(num(-1))}, {api.XSub, -2, 3, gives(num(-5))}, {api.XSub, 2, -3, gives(num(5))}, {api.XSub, 3, 3, gives(num(0))},
		{api.XMul, 2, 3, gives(num(6))}, {api.XMul, -2, 3, gives(num(-6))}, {api.XMul, 2, -3, gives(num(-6))}, {api.XMul, -2, -3, gives(num(6))}, {api.XMul, 0, -3, gives(num(0))},

		{api.XAdd, most, 0, gives(num(most))}, {api.XAdd, most, 1, over}, {api.XAdd, 1, most, over}, {api.XAdd, most - 1, 1, gives(num(most))}, {api.XAdd, most, most, over},
		{api.XAdd, least, 0, gives(num(least))}, {api.XAdd, least, -1, over}, {api.XAdd, -1, least, over}, {api.XAdd, least + 1, -1, gives(num(least))}, {api.XAdd, least, least, over},
		{api.XAdd, most, least, gives(num(-1))}, {api.XAdd, least, most, gives(num(-1))}, {api.XAdd, 1 << 62, 1 << 62, over}, {api.XAdd, 1 << 62, 1<<62 - 1, gives(num(most))},
		{api.XAdd, -1 << 62, -1 << 62, gives(num(least))}, {api.XAdd, -1 << 62, -1<<62 - 1, over},

		{api.XSub, most, -1, over}, {api.XSub, most, 0, gives(num(most))}, {api.XSub, most, most, gives(num(0))}, {api.XSub, most, least, over}, {api.XSub, most - 1, -1, gives(num(most))},
		{api.XSub, least, 1, over}, {api.XSub, least, 0, gives(num(least))}, {api.XSub, least, least, gives(num(0))}, {api.XSub, least, most, over}, {api.XSub, least + 1, 1, gives(num(least))},
		{api.XSub, 0, least, over}, {api.XSub, -1, least, gives(num(most))}, {api.XSub, 0, most, gives(num(least + 1))}, {api.XSub, -1, most, gives(num(least))}, {api.XSub, -2, most, over},

		{api.XMul, most, 1, gives(num(most))}, {api.XMul, most, -1, gives(num(least + 1))}, {api.XMul, most, 0, gives(num(0))}, {api.XMul, most, 2, over}, {api.XMul, most, -2, over}, {api.XMul, most, most, over},
		{api.XMul, least, 1, gives(num(least))}, {api.XMul, 1, least, gives(num(least))}, {api.XMul, least, -1, over}, {api.XMul, -1, least, over}, {api.XMul, least, 0, gives(num(0))}, {api.XMul, 0, least, gives(num(0))},
		{api.XMul, least, 2, over}, {api.XMul, least, -2, over}, {api.XMul, least, least, over}, {api.XMul, least, most, over}, {api.XMul, most, least, over},
		{api.XMul, 1 << 31, 1 << 32, over}, {api.XMul, -1 << 31, 1 << 32, gives(num(least))}, {api.XMul, 1 << 31, -1 << 32, gives(num(least))}, {api.XMul, -1 << 31, -1 << 32, over},
		{api.XMul, 1 << 32, 1 << 32, over}, {api.XMul, -1 << 32, 1 << 32, over}, {api.XMul, 1 << 40, 1 << 40, over}, {api.XMul, 1 << 62, 2, over}, {api.XMul, 1 << 62, -2, gives(num(least))},
		{api.XMul, 3037000499, 3037000499, gives(num(9223372030926249001))}, {api.XMul, 3037000500, 3037000500, over},
		{api.XMul, most / 7, 7, gives(num(most))}, {api.XMul, most/7 + 1, 7, over}, {api.XMul, most / 7, -7, gives(num(-most))}, {api.XMul, most/7 + 1, -7, over},
	} {
		math2(t, x.op, num(x.a), num(x.b), x.want)
	}
}

func TestQuotientsAndRests(t *testing.T) { // 16.1: towards 0, with the sign of a
	over, zero := fails(api.ErrOverflow), fails(api.ErrZero)
	for _, x := range []struct {
		a, b           int
		quotient, rest told
	}{
		{7, 2, gives(num(3)), gives(num(1))}, {-7, 2, gives(num(-3)), gives(num(-1))}, {7, -2, gives(num(-3)), gives(num(1))}, {-7, -2, gives(num(3)), gives(num(-1))},
		{6, 3, gives(num(2)), gives(num(0))}, {-6, 3, gives(num(-2)), gives(num(0))}, {6, -3, gives(num(-2)), gives(num(0))}, {-6, -3, gives(num(2)), gives(num(0))},
		{2, 7, gives(num(0)), gives(num(2))}, {-2, 7, gives(num(0)), gives(num(-2))}, {2, -7, gives(num(0)), gives(num(2))}, {-2, -7, gives(num(0)), gives(num(-2))},
		{0, 7, gives(num(0)), gives(num(0))}, {0, -7, gives(num(0)), gives(num(0))},
		{7, 1, gives(num(7)), gives(num(0))}, {-7, 1, gives(num(-7)), gives(num(0))}, {0, 1, gives(num(0)), gives(num(0))}, {most, 1, gives(num(most)), gives(num(0))}, {least, 1, gives(num(least)), gives(num(0))},
		{7, -1, gives(num(-7)), gives(num(0))}, {-7, -1, gives(num(7)), gives(num(0))}, {0, -1, gives(num(0)), gives(num(0))}, {most, -1, gives(num(-most)), gives(num(0))},
		{least, -1, over, gives(num(0))}, {least + 1, -1, gives(num(most)), gives(num(0))},
		{7, 0, zero, zero}, {-7, 0, zero, zero}, {0, 0, zero, zero}, {most, 0, zero, zero}, {least, 0, zero, zero},
		{most, most, gives(num(1)), gives(num(0))}, {least, least, gives(num(1)), gives(num(0))}, {most, least, gives(num(0)), gives(num(most))}, {least, most, gives(num(-1)), gives(num(-1))},
		{least, 2, gives(num(-1 << 62)), gives(num(0))}, {least, -2, gives(num(1 << 62)), gives(num(0))}, {most, 2, gives(num(1<<62 - 1)), gives(num(1))}, {most, -2, gives(num(1 - 1<<62)), gives(num(1))},
		{1, most, gives(num(0)), gives(num(1))}, {-1, most, gives(num(0)), gives(num(-1))}, {1, least, gives(num(0)), gives(num(1))}, {-1, least, gives(num(0)), gives(num(-1))},
	} {
		math2(t, api.XDiv, num(x.a), num(x.b), x.quotient)
		math2(t, api.XMod, num(x.a), num(x.b), x.rest)
	}
}

func TestMathOfTexts(t *testing.T) { // 16.1
	for _, x := range []struct{ a, b, want string }{
		{"a", "b", "ab"}, {"b", "a", "ba"}, {"", "", ""}, {"a", "", "a"}, {"", "b", "b"}, {"a\x00", "\x00b", "a\x00\x00b"}, {"\xC3", "\xA9", "é"}, {"'", "'", "''"}, {"\xFF", "1", "\xFF1"},
	} {
		math2(t, api.XCat, text(x.a), text(x.b), gives(text(x.want)))
	}
	long := strings.Repeat("long", 100000)
	math2(t, api.XCat, text(long), text("er"), gives(text(long+"er")))
}

func TestMathOfNull(t *testing.T) { // 16.1
	for _, op := range numeric() {
		for _, n := range []int{least, -1, 0, 1, most} { // null / 0 is null: nothing is divided
			math2(t, op, null, num(n), gives(null))
			math2(t, op, num(n), null, gives(null))
		}
		math2(t, op, null, null, gives(null))
	}
	math2(t, api.XCat, null, text("a"), gives(null))
	math2(t, api.XCat, text(""), null, gives(null))
	math2(t, api.XCat, null, null, gives(null))
}

func TestMathOfWrongTypes(t *testing.T) { // 16.1: ahead of null, of 0, of what does not fit
	wrong := fails(api.ErrType)
	for _, op := range numeric() {
		for _, a := range []api.Value{text(""), text("1"), no, yes, kind(-1), kind(4), kind(257)} {
			for _, b := range []api.Value{null, num(0), num(1), num(least), text(""), a} {
				math2(t, op, a, b, wrong)
				math2(t, op, b, a, wrong)
			}
		}
	}
	for _, a := range []api.Value{num(0), num(1), no, yes, kind(-1), kind(4), kind(258)} {
		for _, b := range []api.Value{null, text(""), text("a"), num(1), a} {
			math2(t, api.XCat, a, b, wrong)
			math2(t, api.XCat, b, a, wrong)
		}
	}
}

// TestNoOperation: whatever the values, an op that is none is ErrArg, ahead of all.
func TestNoOperation(t *testing.T) { // 16.1, 16.2
	values := []api.Value{null, num(0), num(1), num(least), text(""), text("a"), no, yes, kind(-1), kind(4)}
	for _, op := range ops() {
		for _, a := range values {
			for _, b := range values {
				if op != api.XCat && !slices.Contains(numeric(), op) {
					math2(t, op, a, b, fails(api.ErrArg))
				}
				if !slices.Contains(comparisons(), op) {
					less(t, op, a, b, fails(api.ErrArg))
				}
			}
		}
	}
}

func TestLess(t *testing.T) { // 16.2
	// Of each type some values as they rise, no two alike.
	for _, l := range [][]api.Value{
		{num(least), num(least + 1), num(-1), num(0), num(1), num(2), num(10), num(most)},
		{text(""), text("\x00"), text("'"), text("10"), text("2"), text("A"), text("a"), text("a\x00"), text("aa"), text("b"), text("é"), text("\xFF")},
		{no, yes},
	} {
		for i, a := range l {
			for j, b := range l {
				less(t, api.XEq, a, b, gives(truth(i == j)))
				less(t, api.XNe, a, b, gives(truth(i != j)))
				less(t, api.XLt, a, b, gives(truth(i < j)))
				less(t, api.XLe, a, b, gives(truth(i <= j)))
				less(t, api.XGt, a, b, gives(truth(i > j)))
				less(t, api.XGe, a, b, gives(truth(i >= j)))
			}
		}
	}
}

func TestLessOfOtherTypes(t *testing.T) { // 16.2
	l := []api.Value{num(0), num(1), text(""), text("1"), no, yes, kind(-1), kind(4), kind(257)}
	for _, op := range comparisons() {
		less(t, op, null, null, gives(null))
		for _, a := range l {
			less(t, op, a, null, gives(null))
			less(t, op, null, a, gives(null))
			for _, b := range l {
				if a.Type != b.Type {
					less(t, op, a, b, fails(api.ErrType))
				}
			}
		}
		// By key.Compare two values of one Type that is none are alike.
		for _, n := range none() {
			alike := op == api.XEq || op == api.XLe || op == api.XGe
			less(t, op, api.Value{Type: n, Int: 1}, api.Value{Type: n, Text: "a", Bool: true}, gives(truth(alike)))
		}
	}
}

func TestTruths(t *testing.T) { // 16.2
	for _, x := range []struct{ a, b, and, or api.Value }{
		{no, no, no, no}, {no, null, no, null}, {no, yes, no, yes},
		{null, no, no, null}, {null, null, null, null}, {null, yes, null, yes},
		{yes, no, no, yes}, {yes, null, null, yes}, {yes, yes, yes, yes},
	} {
		check(t, tell(value.And(x.a, x.b)), gives(x.and), "And", x.a, x.b)
		check(t, tell(value.Or(x.a, x.b)), gives(x.or), "Or", x.a, x.b)
	}
	check(t, tell(value.Not(no)), gives(yes), "Not false")
	check(t, tell(value.Not(null)), gives(null), "Not null")
	check(t, tell(value.Not(yes)), gives(no), "Not true")
}

// TestNoTruths: a value that is no truth is ErrType, though the other one alone would decide.
func TestNoTruths(t *testing.T) { // 16.2
	wrong := fails(api.ErrType)
	l := []api.Value{num(0), num(1), num(least), text(""), text("TRUE")}
	for _, n := range none() {
		l = append(l, api.Value{Type: n, Bool: true})
	}
	for _, a := range l {
		check(t, tell(value.Not(a)), wrong, "Not", a)
		for _, b := range []api.Value{no, null, yes, num(1), text(""), a} {
			check(t, tell(value.And(a, b)), wrong, "And", a, b)
			check(t, tell(value.And(b, a)), wrong, "And", b, a)
			check(t, tell(value.Or(a, b)), wrong, "Or", a, b)
			check(t, tell(value.Or(b, a)), wrong, "Or", b, a)
		}
	}
}

func TestNeg(t *testing.T) { // 16.2
	for _, n := range []int{0, 1, -1, 7, most, -most, 1 << 32} {
		check(t, tell(value.Neg(num(n))), gives(num(-n)), "Neg", n)
	}
	check(t, tell(value.Neg(num(least))), fails(api.ErrOverflow), "Neg of the least")
	check(t, tell(value.Neg(null)), gives(null), "Neg of null")
	for _, v := range []api.Value{text(""), text("1"), no, yes, kind(-1), kind(4), kind(257)} {
		check(t, tell(value.Neg(v)), fails(api.ErrType), "Neg", v)
	}
}

func TestLength(t *testing.T) { // 16.3
	for s, n := range map[string]int{"": 0, "a": 1, "é": 2, "\x00": 1, "it's": 4, "\xFF\xFE": 2, strings.Repeat("a", 70000): 70000} {
		call(t, "length", gives(num(n)), text(s))
	}
	call(t, "length", gives(null), null)
	for _, v := range []api.Value{num(0), num(1), no, yes, kind(-1), kind(4), kind(258)} {
		call(t, "length", fails(api.ErrType), v)
	}
}

func TestAbs(t *testing.T) { // 16.3
	for n, want := range map[int]int{0: 0, 1: 1, -1: 1, 5: 5, -5: 5, most: most, -most: most, least + 2: most - 1} {
		call(t, "abs", gives(num(want)), num(n))
	}
	call(t, "abs", fails(api.ErrOverflow), num(least))
	call(t, "abs", gives(null), null)
	for _, v := range []api.Value{text(""), text("-1"), no, yes, kind(-1), kind(4), kind(257)} {
		call(t, "abs", fails(api.ErrType), v)
	}
}

func TestCoalesce(t *testing.T) { // 16.3
	l := []api.Value{num(2), num(0), num(least), text(""), text("a"), no, yes, kind(-1), kind(4)}
	for _, v := range l {
		call(t, "coalesce", gives(v), v)
		call(t, "coalesce", gives(v), null, v)
		call(t, "coalesce", gives(v), v, null)
		call(t, "coalesce", gives(v), null, null, v, null, v)
	}
	call(t, "coalesce", gives(num(2)), num(2), num(3), num(1))
	call(t, "coalesce", gives(num(3)), null, num(3), num(2))
	call(t, "coalesce", gives(text("b")), text("b"), text("a"))
	call(t, "coalesce", gives(yes), null, yes, no)
	call(t, "coalesce", gives(null), null)
	call(t, "coalesce", gives(null), null, null, null)
	for i := range 200 {
		many := make([]api.Value, 200)
		many[i] = num(i)
		many[199] = num(199)
		call(t, "coalesce", gives(num(i)), many...)
	}
}

// TestCoalesceOfOtherTypes: two types among what is not null are ErrType, wherever they stand, the last two too.
func TestCoalesceOfOtherTypes(t *testing.T) { // 16.3
	for _, a := range []api.Value{num(1), text(""), no, kind(-1), kind(4)} {
		for _, b := range []api.Value{num(2), text("a"), yes, kind(-2), kind(257)} {
			if a.Type == b.Type {
				continue
			}
			for i := range 6 {
				for j := range 6 {
					if i != j {
						l := make([]api.Value, 6)
						l[i], l[j] = a, b
						call(t, "coalesce", fails(api.ErrType), l...)
					}
				}
			}
			call(t, "coalesce", fails(api.ErrType), a, a, a, b)
			call(t, "coalesce", fails(api.ErrType), a, b, b, b)
		}
	}
}

func TestNoFunction(t *testing.T) { // 16.3: ahead of the values' types
	wrong := fails(api.ErrArg)
	for _, name := range []string{"", "LENGTH", "Length", "ABS", "Abs", "COALESCE", "Coalesce", "lengt", "lengths", "length ", " abs", "abs\x00", "coalesce()", "count", "sum", "min", "null"} {
		for _, l := range [][]api.Value{nil, {}, {null}, {num(-1)}, {text("a")}, {yes}, {num(1), num(2)}, {num(1), text("")}, {kind(9)}} {
			call(t, name, wrong, l...)
		}
	}
	for _, name := range []string{"length", "abs"} {
		for _, l := range [][]api.Value{nil, {}, {null, null}, {num(1), num(2)}, {text("a"), text("b")}, {num(1), text("a")}, {yes, null}, {null, null, null}, {num(least), num(least)}, make([]api.Value, 1000)} {
			call(t, name, wrong, l...)
		}
	}
	call(t, "coalesce", wrong)
	call(t, "coalesce", wrong, []api.Value{}...)
}

func TestText(t *testing.T) { // 16.4
	for _, x := range []struct {
		v    api.Value
		want string
	}{
		{null, "NULL"}, {no, "FALSE"}, {yes, "TRUE"},
		{num(0), "0"}, {num(7), "7"}, {num(-7), "-7"}, {num(1234567890), "1234567890"}, {num(most), "9223372036854775807"}, {num(least), "-9223372036854775808"},
		{text(""), "''"}, {text("a"), "'a'"}, {text("NULL"), "'NULL'"}, {text("it's"), "'it''s'"}, {text("'"), "''''"}, {text("''"), "''''''"},
		{text("'a"), "'''a'"}, {text("a'"), "'a'''"}, {text("'a'"), "'''a'''"}, {text("a''b"), "'a''''b'"}, {text("a'b'c"), "'a''b''c'"},
		{text("\""), "'\"'"}, {text("\\'"), "'\\'''"}, {text("a\x00\n"), "'a\x00\n'"}, {text("é"), "'é'"}, {text("\xFF'\xC3"), "'\xFF''\xC3'"},
	} {
		if s := value.Text(x.v); s != x.want {
			t.Errorf("Text(%#v) = %q, want %q", x.v, s, x.want)
		}
	}
	for _, n := range none() {
		if s := value.Text(api.Value{Type: n, Int: 1, Text: "a", Bool: true}); s != "NULL" {
			t.Errorf("Text of type %d = %q", n, s)
		}
	}
}

func TestSum(t *testing.T) { // 16.4
	sum(t, gives(null))
	sum(t, gives(null), []api.Value{}...)
	sum(t, gives(null), null)
	sum(t, gives(null), null, null, null)
	sum(t, gives(num(0)), num(0))
	sum(t, gives(num(0)), null, num(0))
	sum(t, gives(num(5)), num(5), null)
	sum(t, gives(num(6)), num(1), num(2), num(3))
	sum(t, gives(num(-1)), null, num(1), null, num(-2), null)
	sum(t, gives(num(most)), num(most))
	sum(t, gives(num(least)), num(least))
	sum(t, gives(num(most)), num(most-1), num(1))
	sum(t, fails(api.ErrOverflow), num(most), num(1))
	sum(t, gives(num(least)), num(least+1), num(-1))
	sum(t, fails(api.ErrOverflow), num(least), num(-1))
	sum(t, fails(api.ErrOverflow), num(most), null, num(most))
	sum(t, fails(api.ErrOverflow), num(least), null, num(least))
	// Of one word alone these two would be 0.
	sum(t, fails(api.ErrOverflow), num(least), num(least), null)
	sum(t, fails(api.ErrOverflow), num(least), num(least), num(least), num(least))
}

func TestSumOfWrongTypes(t *testing.T) { // 16.4: wherever it stands, and ahead of what does not fit
	for _, v := range []api.Value{text(""), text("1"), no, yes, kind(-1), kind(4), kind(257)} {
		sum(t, fails(api.ErrType), v)
		sum(t, fails(api.ErrType), v, null)
		sum(t, fails(api.ErrType), null, v)
		sum(t, fails(api.ErrType), v, v)
		for i := range 5 {
			sum(t, fails(api.ErrType), slices.Insert([]api.Value{num(1), null, num(2), num(3)}, i, v)...)
			sum(t, fails(api.ErrType), slices.Insert([]api.Value{num(most), num(most), num(most), num(most)}, i, v)...)
		}
	}
}

// TestUnusedFields: what a value's Type does not use makes no difference, and is never told.
func TestUnusedFields(t *testing.T) { // DOC's rule 7
	odd := func(n int) api.Value { return api.Value{Type: n, Int: 3, Text: "a'", Bool: true} }
	n, s, b := odd(api.TInt), odd(api.TText), odd(api.TBool)
	for _, op := range numeric() {
		math2(t, op, odd(api.TNull), n, gives(null))
		math2(t, op, n, odd(api.TNull), gives(null))
	}
	math2(t, api.XMul, n, n, gives(num(9)))
	math2(t, api.XMod, n, n, gives(num(0)))
	math2(t, api.XDiv, n, n, gives(num(1)))
	math2(t, api.XCat, s, s, gives(text("a'a'")))
	math2(t, api.XCat, odd(api.TNull), s, gives(null))
	less(t, api.XEq, n, num(3), gives(yes))
	less(t, api.XEq, s, text("a'"), gives(yes))
	less(t, api.XEq, b, yes, gives(yes))
	less(t, api.XEq, odd(api.TNull), n, gives(null))
	check(t, tell(value.And(odd(api.TNull), b)), gives(null), "And")
	check(t, tell(value.Or(odd(api.TNull), no)), gives(null), "Or")
	check(t, tell(value.And(b, b)), gives(yes), "And")
	check(t, tell(value.Not(b)), gives(no), "Not")
	check(t, tell(value.Not(odd(api.TNull))), gives(null), "Not")
	check(t, tell(value.Neg(n)), gives(num(-3)), "Neg")
	call(t, "length", gives(num(2)), s)
	call(t, "length", gives(null), odd(api.TNull))
	call(t, "abs", gives(num(3)), n)
	call(t, "abs", gives(null), odd(api.TNull))
	for _, v := range []api.Value{n, s, b} {
		call(t, "coalesce", fails(api.ErrType), odd(api.TNull), v, odd(9))
	}
	call(t, "coalesce", gives(num(3)), odd(api.TNull), n)
	call(t, "coalesce", gives(text("a'")), odd(api.TNull), s)
	call(t, "coalesce", gives(yes), odd(api.TNull), b)
	call(t, "coalesce", gives(kind(9)), odd(api.TNull), odd(9))
	call(t, "coalesce", gives(null), odd(api.TNull))
	sum(t, gives(num(6)), n, odd(api.TNull), n)
	sum(t, gives(null), odd(api.TNull))
	for want, v := range map[string]api.Value{"NULL": odd(api.TNull), "3": n, "'a'''": s, "TRUE": b} {
		if got := value.Text(v); got != want {
			t.Errorf("Text(%#v) = %q", v, got)
		}
	}
}
