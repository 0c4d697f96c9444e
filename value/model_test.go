package value_test

import (
	"math/big"
	"math/rand"
	"slices"
	"strconv"
	"strings"
	"testing"

	"palimpsest/api"
	"palimpsest/value"
)

// exact tells a number of any size as the chapter asks for it.
func exact(n *big.Int) told {
	if !n.IsInt64() {
		return fails(api.ErrOverflow)
	}
	return gives(num(int(n.Int64())))
}

// reckoned tells, by numbers of any size, what Math is of two numbers.
func reckoned(op, a, b int) told {
	x, y, r := big.NewInt(int64(a)), big.NewInt(int64(b)), new(big.Int)
	switch {
	case op == api.XAdd:
		return exact(r.Add(x, y))
	case op == api.XSub:
		return exact(r.Sub(x, y))
	case op == api.XMul:
		return exact(r.Mul(x, y))
	case b == 0:
		return fails(api.ErrZero)
	case op == api.XDiv:
		return exact(r.Quo(x, y))
	}
	return exact(r.Rem(x, y))
}

// numbers are those around each power of two and of ten, of either sign, roots and parts of the greatest among them, and some by seed.
func numbers() []int {
	l := []int{0, least, least + 1, least + 2, most, most - 1, 3037000499, 3037000500, -3037000499, -3037000500}
	for i := range 63 {
		n := 1 << i
		l = append(l, n, -n, n-1, -n-1, n+1, 1-n)
	}
	for n := 1; n < most/10; n *= 10 {
		l = append(l, n, -n, most/n, least/n, most/n+1)
	}
	g := rand.New(rand.NewSource(16))
	for range 60 {
		n := int(g.Uint64()) >> g.Intn(64)
		l = append(l, n, -n)
	}
	slices.Sort(l)
	return slices.Compact(l)
}

func TestEveryPairOfNumbers(t *testing.T) { // 16.1, 16.2
	l := numbers()
	for _, a := range l {
		for _, b := range l {
			for _, op := range numeric() {
				got, want := tell(value.Math(op, num(a), num(b))), reckoned(op, a, b)
				if got != want {
					t.Fatalf("Math(%d, %d, %d) = %v, want %v", op, a, b, got, want)
				}
			}
		}
		check(t, tell(value.Neg(num(a))), reckoned(api.XSub, 0, a), "Neg", a)
		check(t, tell(value.Call("abs", []api.Value{num(a)})), exact(new(big.Int).Abs(big.NewInt(int64(a)))), "abs", a)
		if s := value.Text(num(a)); s != big.NewInt(int64(a)).String() {
			t.Fatalf("Text(%d) = %q", a, s)
		}
	}
}

// TestQuotientsGoBack: a is (a / b) * b + a % b, wherever a / b is a number.
func TestQuotientsGoBack(t *testing.T) { // 16.5
	l := numbers()
	for _, a := range l {
		for _, b := range l {
			quotient, e := value.Math(api.XDiv, num(a), num(b))
			if e != api.OK {
				if b != 0 && (a != least || b != -1) {
					t.Fatalf("%d / %d: %d", a, b, e)
				}
				continue
			}
			rest, e := value.Math(api.XMod, num(a), num(b))
			if e != api.OK || rest.Int < 0 && a > 0 || rest.Int > 0 && a < 0 {
				t.Fatalf("%d %% %d: %#v, %d", a, b, rest, e)
			}
			product, e := value.Math(api.XMul, quotient, num(b))
			if e != api.OK {
				t.Fatalf("%d / %d * %d: %d", a, b, b, e)
			}
			math2(t, api.XAdd, product, rest, gives(num(a)))
		}
	}
}

// some are values of every Type, told or not.
func some() []api.Value {
	l := []api.Value{null, num(0), num(1), num(-1), num(least), num(most), text(""), text("a"), text("b"), text("'"), no, yes}
	for _, n := range none() {
		l = append(l, kind(n))
	}
	return l
}

// may tells whether a value can stand where that type is asked for.
func may(v api.Value, kind int) bool { return v == null || v.Type == kind }

// worded tells by the chapter's words what Math is.
func worded(op int, a, b api.Value) told {
	number, cat := slices.Contains(numeric(), op), op == api.XCat
	switch {
	case !number && !cat:
		return fails(api.ErrArg)
	case number && !(may(a, api.TInt) && may(b, api.TInt)), cat && !(may(a, api.TText) && may(b, api.TText)):
		return fails(api.ErrType)
	case a == null || b == null:
		return gives(null)
	case cat:
		return gives(text(strings.Join([]string{a.Text, b.Text}, "")))
	}
	return reckoned(op, a.Int, b.Int)
}

// stands tells, by how the chapter of keys orders values of one type, what Less is.
func stands(op int, a, b api.Value) told {
	spell := func(v api.Value) string { // as texts of one length numbers stand as they do
		switch v.Type {
		case api.TInt:
			s := strconv.FormatUint(uint64(v.Int)^1<<63, 16)
			return strings.Repeat("0", 16-len(s)) + s
		case api.TText:
			return v.Text
		case api.TBool:
			return map[bool]string{false: "a", true: "b"}[v.Bool]
		}
		return ""
	}
	switch {
	case !slices.Contains(comparisons(), op):
		return fails(api.ErrArg)
	case a != null && b != null && a.Type != b.Type:
		return fails(api.ErrType)
	case a == null || b == null:
		return gives(null)
	}
	is := map[int]bool{
		api.XEq: spell(a) == spell(b), api.XNe: spell(a) != spell(b), api.XLt: spell(a) < spell(b),
		api.XLe: spell(a) <= spell(b), api.XGt: spell(a) > spell(b), api.XGe: spell(a) >= spell(b),
	}[op]
	return gives(truth(is))
}

func TestEveryOpOfEveryPair(t *testing.T) { // 16.1, 16.2
	for _, op := range ops() {
		for _, a := range some() {
			for _, b := range some() {
				math2(t, op, a, b, worded(op, a, b))
				less(t, op, a, b, stands(op, a, b))
			}
		}
	}
}

// guessed tells what a truth is made of those that null could be: known, if all guesses agree.
func guessed(join func(a, b bool) bool, a, b api.Value) api.Value {
	guesses := func(v api.Value) []bool {
		if v == null {
			return []bool{false, true}
		}
		return []bool{v.Bool}
	}
	had := map[bool]int{}
	for _, x := range guesses(a) {
		for _, y := range guesses(b) {
			had[join(x, y)]++
		}
	}
	if len(had) > 1 {
		return null
	}
	return truth(had[true] > 0)
}

// must wants a call to answer no error.
func must(t *testing.T, got told) api.Value {
	t.Helper()
	if got.e != api.OK {
		t.Fatalf("error %d", got.e)
	}
	return got.v
}

// TestTruthsAreWhatNullCouldBe: each pair against what it would be with either truth in the place of null; both ways; and turned round.
func TestTruthsAreWhatNullCouldBe(t *testing.T) { // 16.2, 16.5
	all := []api.Value{no, null, yes}
	for _, a := range all {
		for _, b := range all {
			and, or := must(t, tell(value.And(a, b))), must(t, tell(value.Or(a, b)))
			check(t, gives(and), gives(guessed(func(x, y bool) bool { return x && y }, a, b)), "And", a, b)
			check(t, gives(or), gives(guessed(func(x, y bool) bool { return x || y }, a, b)), "Or", a, b)
			check(t, tell(value.And(b, a)), gives(and), "And turned", a, b)
			check(t, tell(value.Or(b, a)), gives(or), "Or turned", a, b)
			notA, notB := must(t, tell(value.Not(a))), must(t, tell(value.Not(b)))
			check(t, tell(value.Or(notA, notB)), tell(value.Not(and)), "Not of And", a, b)
			check(t, tell(value.And(notA, notB)), tell(value.Not(or)), "Not of Or", a, b)
			check(t, tell(value.Not(notA)), gives(a), "Not of Not", a)
		}
	}
	for _, a := range some() {
		for _, b := range some() {
			check(t, tell(value.And(a, b)), tell(value.And(b, a)), "And both ways", a, b)
			check(t, tell(value.Or(a, b)), tell(value.Or(b, a)), "Or both ways", a, b)
			if want := may(a, api.TBool) && may(b, api.TBool); (tell(value.And(a, b)) != fails(api.ErrType)) != want {
				t.Errorf("And of %#v, %#v", a, b)
			}
		}
	}
}

// coalesced tells by the chapter's words what coalesce is.
func coalesced(l []api.Value) told {
	left := slices.DeleteFunc(slices.Clone(l), func(v api.Value) bool { return v == null })
	for _, a := range left {
		for _, b := range left {
			if a.Type != b.Type {
				return fails(api.ErrType)
			}
		}
	}
	return gives(append(left, null)[0])
}

// summed tells by numbers of any size what Sum is.
func summed(l []api.Value) told {
	total, counted := new(big.Int), false
	for _, v := range l {
		if !may(v, api.TInt) {
			return fails(api.ErrType)
		}
		counted = counted || v != null
		total.Add(total, big.NewInt(int64(v.Int)))
	}
	if !counted {
		return gives(null)
	}
	return exact(total)
}

// everyList calls f with every list of up to so many of these values.
func everyList(values []api.Value, longest int, f func(l []api.Value)) {
	var grow func(l []api.Value)
	grow = func(l []api.Value) {
		f(l)
		if len(l) < longest {
			for _, v := range values {
				grow(append(slices.Clone(l), v))
			}
		}
	}
	grow(nil)
}

func TestEveryShortList(t *testing.T) { // 16.3, 16.4
	everyList([]api.Value{null, num(1), num(least), num(most), num(-1), text(""), yes, kind(4)}, 5, func(l []api.Value) {
		sum(t, summed(l), l...)
		if len(l) > 0 {
			call(t, "coalesce", coalesced(l), l...)
		}
	})
}

// TestSumInEveryOrder: each order of lists in which a sum on the way does not fit, some that fit in all and some that do not.
func TestSumInEveryOrder(t *testing.T) { // 16.4, 16.6
	for _, x := range []struct {
		want told
		l    []int
	}{
		{gives(num(most - 1)), []int{most, 5, -6}},
		{gives(num(most)), []int{most, most, -most}},
		{gives(num(0)), []int{least, least, most, most, 2}},
		{gives(num(least)), []int{least, -1, 1}},
		{gives(num(-1)), []int{most, least, most, least, 1}},
		{gives(num(least)), []int{least, least, least, most, most, 2}},
		{fails(api.ErrOverflow), []int{most, most}},
		{fails(api.ErrOverflow), []int{most, 2, -1}},
		{fails(api.ErrOverflow), []int{least, -2, 1}},
		{fails(api.ErrOverflow), []int{least, least, least, least, 1, -1}},
	} {
		var l []api.Value
		for _, n := range x.l {
			l = append(l, num(n))
		}
		everyOrder(append(l, null), 0, func(l []api.Value) { sum(t, x.want, l...) })
	}
	everyOrder([]api.Value{num(most), num(most), null, text(""), num(least)}, 0, func(l []api.Value) { sum(t, fails(api.ErrType), l...) })
}

// everyOrder calls f with each order of what stands from a place on.
func everyOrder(l []api.Value, from int, f func(l []api.Value)) {
	if from == len(l) {
		f(l)
		return
	}
	for i := from; i < len(l); i++ {
		l[from], l[i] = l[i], l[from]
		everyOrder(l, from+1, f)
		l[from], l[i] = l[i], l[from]
	}
}

// TestLongSums: lists whose sums on the way lie far beyond one word, on either side, in several orders.
func TestLongSums(t *testing.T) { // 16.4, 16.6
	const many = 50000
	up, down := slices.Repeat([]api.Value{num(most)}, many), slices.Repeat([]api.Value{num(least)}, many)
	sum(t, fails(api.ErrOverflow), up...)
	sum(t, fails(api.ErrOverflow), down...)
	// In one word an even number of the least ones is 0, an odd one the least again.
	sum(t, fails(api.ErrOverflow), down[1:]...)
	sum(t, gives(num(-many)), append(slices.Clone(up), down...)...)
	sum(t, gives(num(-many)), append(slices.Clone(down), up...)...)
	sum(t, gives(num(most-many)), append(slices.Clone(down), append(up, num(most))...)...)
	g := rand.New(rand.NewSource(17))
	l := numbers()
	for range 300 {
		var list []api.Value
		for range g.Intn(400) {
			if n := l[g.Intn(len(l))]; g.Intn(10) == 0 {
				list = append(list, null)
			} else if list = append(list, num(n)); n != least && g.Intn(3) > 0 {
				list = append(list, num(-n))
			}
		}
		want := summed(list)
		for range 3 {
			sum(t, want, list...)
			g.Shuffle(len(list), func(i, j int) { list[i], list[j] = list[j], list[i] })
		}
	}
}

// TestTextsReadBack: a text is told so that what stands between the outer ' is the text, each ' twice, whatever its bytes.
func TestTextsReadBack(t *testing.T) { // 16.4
	var words []string
	everyList([]api.Value{text("'"), text("a"), text("\x00"), text("\xFF")}, 6, func(l []api.Value) {
		var s string
		for _, v := range l {
			s += v.Text
		}
		words = append(words, s)
	})
	for _, w := range words {
		want := []byte{'\''}
		for i := range len(w) {
			want = append(want, w[i])
			if w[i] == '\'' {
				want = append(want, '\'')
			}
		}
		if s := value.Text(text(w)); s != string(want)+"'" {
			t.Fatalf("Text(%q) = %q", w, s)
		}
		call(t, "length", gives(num(len(w))), text(w))
	}
}

// TestEveryCallEnds: whatever is given, nothing panics, and beside an error nothing is told.
func TestEveryCallEnds(t *testing.T) { // 16.7, DOC's rule 4
	g := rand.New(rand.NewSource(18))
	values := some()
	pick := func() api.Value {
		v := values[g.Intn(len(values))]
		if g.Intn(3) == 0 {
			v.Int, v.Text, v.Bool = int(g.Uint64())>>g.Intn(64), strings.Repeat("'\x00", g.Intn(5)), g.Intn(2) == 0
		}
		return v
	}
	names := []string{"length", "abs", "coalesce", "", "Abs", "\xFF"}
	for range 50000 {
		op, a, b := ops()[g.Intn(len(ops()))], pick(), pick()
		var l []api.Value
		for range g.Intn(5) {
			l = append(l, pick())
		}
		for i, x := range []told{
			tell(value.Math(op, a, b)), tell(value.Less(op, a, b)), tell(value.And(a, b)), tell(value.Or(a, b)), tell(value.Not(a)), tell(value.Neg(a)),
			tell(value.Call(names[g.Intn(len(names))], l)), tell(value.Sum(l)),
		} {
			if x.e != api.OK && x.v != null || x.v.Type == api.TNull && x.v != null {
				t.Fatalf("call %d of %d, %#v, %#v, %#v: %#v, %d", i, op, a, b, l, x.v, x.e)
			}
		}
		if value.Text(a) == "" {
			t.Fatalf("Text(%#v) is empty", a)
		}
	}
}
