package value_test

import (
	"slices"
	"strings"
	"testing"
	"unsafe"

	"palimpsest/api"
	"palimpsest/value"
)

// over tells a text that lies in bytes that can be changed behind a call.
func over(b []byte) string {
	return unsafe.String(unsafe.SliceData(b), len(b))
}

// roomy gives a list spare room, filled so that a write there is seen.
func roomy(l []api.Value) []api.Value {
	return append(slices.Clone(l), num(71), text("spare"), yes)[:len(l)]
}

// TestHandedIn: no call changes a list that it is given, nor the spare room behind it, whether it answers an error or not.
func TestHandedIn(t *testing.T) { // DOC's rule 3
	for _, l := range [][]api.Value{
		nil, {}, {null}, {num(-3)}, {num(least)}, {text("a'b")}, {yes}, {null, num(1), null, num(2)}, {text("b"), null, text("a")},
		{num(1), text("a"), no}, {num(most), num(most), num(least)}, {num(most), num(1)}, {kind(9), {Type: api.TInt, Int: 1, Text: "unused", Bool: true}},
	} {
		handed := roomy(l)
		was := slices.Clone(handed[:cap(handed)])
		for _, name := range []string{"length", "abs", "coalesce", "other"} {
			value.Call(name, handed)
		}
		value.Sum(handed)
		if !slices.Equal(handed[:cap(handed)], was) {
			t.Fatalf("the list is changed: %#v, was %#v", handed[:cap(handed)], was)
		}
	}
}

// TestTextsStay: no call writes into the bytes of a text, and none tells what lies in them.
func TestTextsStay(t *testing.T) { // DOC's rule 3
	first, second := []byte("it's one"), []byte("it's two")
	a, b := text(over(first)), text(over(second))
	var answers []string
	for _, v := range []told{
		tell(value.Math(api.XCat, a, b)), tell(value.Math(api.XCat, a, text(""))), tell(value.Math(api.XCat, text(""), b)),
		tell(value.Call("coalesce", []api.Value{null, a, b})), tell(value.Call("coalesce", []api.Value{b})),
	} {
		answers = append(answers, v.v.Text)
	}
	answers = append(answers, value.Text(a), value.Text(b), value.Text(text(over(first[:2]))))
	value.Less(api.XLt, a, b)
	value.Call("length", []api.Value{a})
	value.Sum([]api.Value{a, b})
	if string(first) != "it's one" || string(second) != "it's two" {
		t.Fatalf("a text is changed: %q, %q", first, second)
	}
	for i := range first {
		first[i], second[i] = '!', '!'
	}
	want := []string{"it's oneit's two", "it's one", "it's two", "it's one", "it's two", "'it''s one'", "'it''s two'", "'it'"}
	if !slices.Equal(answers, want) {
		t.Fatalf("what was told has changed: %q", answers)
	}
}

// TestAnswersAreNew: no two answers lie in one memory.
func TestAnswersAreNew(t *testing.T) { // DOC's rule 3
	a := text(strings.Repeat("long", 20))
	l := []string{a.Text}
	for range 2 {
		v, _ := value.Math(api.XCat, a, text(""))
		w, _ := value.Math(api.XCat, text(""), a)
		x, _ := value.Call("coalesce", []api.Value{a})
		l = append(l, v.Text, w.Text, x.Text)
	}
	for i, s := range l {
		for _, other := range l[:i] {
			if s != other || unsafe.StringData(s) == unsafe.StringData(other) {
				t.Fatalf("two of the texts, %q and %q, are one memory", s, other)
			}
		}
	}
}

// TestNothingIsKept: what was asked before makes no difference.
func TestNothingIsKept(t *testing.T) { // DOC's rule 3
	l := []api.Value{num(most), num(1)}
	sum(t, fails(api.ErrOverflow), l...)
	l[1] = num(-1)
	sum(t, gives(num(most-1)), l...)
	l[1] = text("")
	sum(t, fails(api.ErrType), l...)
	call(t, "coalesce", fails(api.ErrType), l...)
	l[1] = null
	sum(t, gives(num(most)), l...)
	call(t, "coalesce", gives(num(most)), l...)
}
