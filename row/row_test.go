package row_test

import (
	"bytes"
	"encoding/hex"
	"fmt"
	"math"
	"math/rand"
	"slices"
	"strings"
	"testing"

	"palimpsest/api"
	"palimpsest/row"
)

const least, most = math.MinInt, math.MaxInt

func num(n int) api.Value           { return api.Value{Type: api.TInt, Int: n} }
func text(s string) api.Value       { return api.Value{Type: api.TText, Text: s} }
func truth(b bool) api.Value        { return api.Value{Type: api.TBool, Bool: b} }
func kind(n int) api.Value          { return api.Value{Type: n} }
func of(l ...api.Value) []api.Value { return l }

var null, no, yes = api.Value{}, truth(false), truth(true)

// none are Types that the document does not tell; some of them are a told one again, if only their lowest bits are minded.
func none() []int {
	return []int{least, -1 << 32, -256, -255, -3, -2, -1, 4, 5, 9, 255, 256, 257, 258, 259, 1 << 32, 1<<32 + 2, most}
}

func spell(t *testing.T, s string) []byte {
	t.Helper()
	b, e := hex.DecodeString(strings.Join(strings.Fields(s), ""))
	if e != nil {
		t.Fatal(e)
	}
	return b
}

// brief spells what can be very long.
func brief(x any) string {
	s := fmt.Sprintf("%#v", x)
	if len(s) > 500 {
		s = s[:500] + " .."
	}
	return s
}

// pair is a row, and its bytes as the chapters spell them.
type pair struct {
	l     []api.Value
	spelt string
}

func pairs() []pair {
	return []pair{
		{nil, ""},
		{of(null), "00"},
		{of(null, null), "00 00"},
		{of(num(0)), "01 8000000000000000"},
		{of(num(-1), num(1)), "01 7FFFFFFFFFFFFFFF 01 8000000000000001"},
		{of(num(least), null, num(most)), "01 0000000000000000 00 01 FFFFFFFFFFFFFFFF"},
		{of(text("")), "02 0000"},
		{of(text("a")), "02 61 0000"},
		{of(text("\x00")), "02 00FF 0000"},
		{of(text("a\x00b"), text("\x00\x00")), "02 61 00FF 62 0000 02 00FF 00FF 0000"},
		{of(text("\xFF\x00")), "02 FF 00FF 0000"},
		{of(no), "03 00"},
		{of(yes), "03 01"},
		{of(yes, no, null), "03 01 03 00 00"},
		{of(num(1), null, text("it's")), "01 8000000000000001 00 02 69742773 0000"},
		{of(null, num(2), text("\x00"), yes), "00 01 8000000000000002 02 00FF 0000 03 01"},
	}
}

// full are rows of just 480 bytes.
func full() [][]api.Value {
	return [][]api.Value{
		slices.Repeat(of(null), 480),
		slices.Repeat(of(yes), 240),
		append(slices.Repeat(of(num(-1)), 53), null, null, null),
		append(of(null, no), slices.Repeat(of(num(most)), 53)...),
		of(text(strings.Repeat("x", 477))),
		of(text(strings.Repeat("\xFF", 477))),
		of(text("x" + strings.Repeat("\x00", 238))),
		of(null, text(strings.Repeat("\x00", 238))),
		of(text(strings.Repeat("\x00", 238)), null),
		slices.Repeat(of(text("")), 160),
		of(num(7), text(strings.Repeat("x\x00", 154)), yes, null, null, null, null),
		of(num(7), null, text("it's"), text(strings.Repeat("a", 40)), no, text(strings.Repeat("b", 415))),
	}
}

// size tells how many bytes a value makes.
func size(v api.Value) int {
	switch v.Type {
	case api.TInt:
		return 1 + 8
	case api.TText:
		return 1 + len(v.Text) + strings.Count(v.Text, "\x00") + 2
	case api.TBool:
		return 1 + 1
	}
	return 1
}

// encodes wants a row's bytes to be b, and b to be that row's.
func encodes(t *testing.T, l []api.Value, b []byte) {
	t.Helper()
	got, e := row.Encode(l)
	if e != api.OK || !bytes.Equal(got, b) {
		t.Fatalf("Encode(%s) = %X, %d; want %X", brief(l), got, e, b)
	}
	decodes(t, b, l)
}

// decodes wants b to be the bytes of that row.
func decodes(t *testing.T, b []byte, l []api.Value) {
	t.Helper()
	if got, ok := row.Decode(b); !ok || !slices.Equal(got, l) {
		t.Fatalf("Decode(%X) = %s, %v; want %s", b, brief(got), ok, brief(l))
	}
}

// refuses wants b to be no row's bytes, and nothing told beside that.
func refuses(t *testing.T, b []byte) {
	t.Helper()
	if got, ok := row.Decode(b); ok || len(got) != 0 {
		t.Fatalf("Decode(%X) = %s, %v; want nothing", b, brief(got), ok)
	}
}

// tooLong wants a row to have too many bytes, and nothing told beside that.
func tooLong(t *testing.T, l []api.Value) {
	t.Helper()
	if b, e := row.Encode(l); e != api.ErrRow || len(b) != 0 {
		t.Fatalf("Encode(%s) = %X, %d; want ErrRow", brief(l), b, e)
	}
}

// stands wants a to stand so to b, and b turned round to a.
func stands(t *testing.T, a, b []api.Value, want int) {
	t.Helper()
	if n := row.Compare(a, b); n != want {
		t.Errorf("Compare(%s, %s) = %d, want %d", brief(a), brief(b), n, want)
	}
	if n := row.Compare(b, a); n != -want {
		t.Errorf("Compare(%s, %s) = %d, want %d", brief(b), brief(a), n, -want)
	}
}

// alike tells whether two lists hold the same rows at each place, field by field.
func alike(a, b [][]api.Value) bool {
	return slices.EqualFunc(a, b, slices.Equal)
}

// sorts wants the rows to be told in that order, whichever order they are handed in.
func sorts(t *testing.T, want ...[]api.Value) {
	t.Helper()
	g := rand.New(rand.NewSource(17))
	l := slices.Clone(want)
	for i := range 20 {
		if got := row.Sort(l); !alike(got, want) {
			t.Fatalf("Sort(%s) = %s, want %s", brief(l), brief(got), brief(want))
		}
		if i == 0 {
			slices.Reverse(l)
			continue
		}
		g.Shuffle(len(l), func(i, j int) { l[i], l[j] = l[j], l[i] })
	}
}

func spells(t *testing.T, want string, l ...api.Value) {
	t.Helper()
	if s := row.Text(l); s != want {
		t.Errorf("Text(%s) = %.500q, want %.500q", brief(l), s, want)
	}
}

func TestExamples(t *testing.T) { // the chapter's table
	stands(t, of(num(1), text("a")), of(num(1), text("b")), -1)
	stands(t, of(num(1)), of(num(1), null), -1)
	spells(t, "1, NULL, 'it''s'", num(1), null, text("it's"))
}

func TestEncode(t *testing.T) { // 17.1, 17.4
	for _, x := range pairs() {
		encodes(t, x.l, spell(t, x.spelt))
		for _, y := range pairs() {
			encodes(t, slices.Concat(x.l, y.l), spell(t, x.spelt+y.spelt))
		}
	}
	encodes(t, []api.Value{}, nil)
	for _, n := range none() { // as key.Join, whatever the other fields are
		b, e := row.Encode(of(api.Value{Type: n, Int: 1, Text: "a", Bool: true}, num(1)))
		if e != api.OK || !bytes.Equal(b, spell(t, "00 01 8000000000000001")) {
			t.Errorf("Encode of type %d: %X, %d", n, b, e)
		}
	}
}

func TestFullRows(t *testing.T) { // 17.1, 17.4: 480 bytes are a row, one more is none
	for _, l := range full() {
		b, e := row.Encode(l)
		if e != api.OK || len(b) != 480 {
			t.Fatalf("Encode(%s): %d bytes, %d", brief(l), len(b), e)
		}
		decodes(t, b, l)
		for _, i := range []int{0, len(l) / 2, len(l)} {
			for _, v := range []api.Value{null, yes, num(0), text(""), text("\x00"), kind(9)} {
				tooLong(t, slices.Insert(slices.Clone(l), i, v))
			}
		}
	}
	for n := 470; n < 490; n++ {
		whole := of(text(strings.Repeat("x", n-3)))
		if b, e := row.Encode(whole); n <= 480 && (e != api.OK || len(b) != n) || n > 480 && (e != api.ErrRow || len(b) != 0) {
			t.Errorf("a text of %d bytes in all: %d bytes, %d", n, len(b), e)
		}
	}
	tooLong(t, of(text(strings.Repeat("\x00", 239)))) // 481: each nought has two
	tooLong(t, slices.Repeat(of(null), 481))
	tooLong(t, slices.Repeat(of(yes), 241))
	tooLong(t, slices.Repeat(of(num(1)), 54))
	tooLong(t, slices.Repeat(of(text("")), 161))
	tooLong(t, slices.Repeat(of(num(1), text("long"), null), 100000))
	tooLong(t, of(text(strings.Repeat("x", 1<<20))))
}

// TestDecodeCutShort: between two values what is left is a row again; elsewhere it is none.
func TestDecodeCutShort(t *testing.T) { // 17.1
	rows := full()
	for _, x := range pairs() {
		rows = append(rows, x.l)
	}
	for _, l := range rows {
		b, _ := row.Encode(l)
		ends := map[int]int{0: 0}
		at := 0
		for i, v := range l {
			at += size(v)
			ends[at] = i + 1
		}
		for i := range len(b) + 1 {
			if n, ok := ends[i]; ok {
				decodes(t, b[:i:i], l[:n])
				continue
			}
			refuses(t, b[:i])
			refuses(t, b[:i:i])
		}
	}
}

func TestDecodeWithMoreBehind(t *testing.T) { // 17.1
	rows := full()
	for _, x := range pairs() {
		rows = append(rows, x.l)
	}
	for _, l := range rows {
		b, _ := row.Encode(l)
		for i := 1; i < 256; i++ {
			refuses(t, append(slices.Clone(b), byte(i)))
		}
		decodes(t, append(slices.Clone(b), 0), append(slices.Clone(l), null)) // the byte of null; of 481 bytes, too
		refuses(t, append(slices.Clone(b), 2, 0))
		refuses(t, append(slices.Clone(b), 0, 5))
		decodes(t, append(slices.Clone(b), 2, 0, 0), append(slices.Clone(l), text("")))
	}
}

func TestDecodeOfNone(t *testing.T) { // 17.1
	decodes(t, nil, nil)
	decodes(t, []byte{}, nil)
	for _, s := range []string{
		"01", "02", "03", "04", "09", "FF", "01 80", "01 80000000000000", "02 00", "02 61", "02 61 00", "02 0001 0000", "02 61 00FE 0000",
		"03 02", "03 FF", "00 04", "04 00", "00 00 01", "03 01 03", "02 0000 02", "01 8000000000000000 80", "FF FF FF FF",
	} {
		refuses(t, spell(t, s))
	}
	decodes(t, make([]byte, 5000), slices.Repeat(of(null), 5000)) // longer than a row may be, but a list's bytes
}

func TestCompare(t *testing.T) { // 17.1
	for _, x := range []struct {
		a, b []api.Value
		want int
	}{
		{nil, nil, 0},
		{nil, []api.Value{}, 0},
		{nil, of(null), -1},
		{nil, of(num(least)), -1},
		{of(null), of(null, null), -1},
		{of(num(1)), of(num(1), null), -1},
		{of(num(1), text("a")), of(num(1), text("a"), no, no, no), -1},
		{of(text("a")), of(text("a"), text("")), -1},
		{of(num(2)), of(num(1), null), 1}, // the first difference counts, not how many they are
		{of(num(2)), of(num(1), num(9), num(9)), 1},
		{of(num(1), num(1), num(1)), of(num(2), num(0), num(0)), -1},
		{of(num(1), num(1), num(1)), of(num(1), num(2), num(0)), -1},
		{of(num(1), num(1), num(1)), of(num(1), num(1), num(2)), -1},
		{of(num(least), no, yes), of(num(most), no, no), -1},
		{of(num(0), no, yes), of(num(0), yes, no), -1},
		{of(num(0), yes, no), of(num(0), yes, yes), -1},
		{of(text("a"), num(1)), of(text("ab"), num(0)), -1},
		{of(num(1), text("b")), of(num(1), text("ab")), 1},
		{of(text("\x00")), of(text("")), 1},
		{of(text("a\x00")), of(text("a"), text("")), 1},
		{of(text("\x7F")), of(text("\x80")), -1},
		{of(null, num(1)), of(num(0), num(1)), -1}, // by type: null, numbers, texts, truths
		{of(num(most), null), of(text(""), null), -1},
		{of(text("\xFF"), null), of(no, null), -1},
		{of(num(1), null, num(1)), of(num(1), num(least), num(0)), -1},
		{of(num(1), num(most), num(1)), of(num(1), text(""), num(0)), -1},
		{of(num(1), text("a"), text("\xFF")), of(num(1), text("a"), no), -1},
		{of(yes, null), of(yes, no), -1},
		{of(num(-1)), of(num(1)), -1},
		{of(num(10)), of(num(9)), 1},
		{of(kind(-1)), of(null), -1},
		{of(yes), of(kind(4)), -1},
		{of(api.Value{Type: 9, Int: 1}), of(api.Value{Type: 9, Text: "a", Bool: true}), 0},
		{of(api.Value{Int: 1}), of(api.Value{Text: "a", Bool: true}), 0},
	} {
		stands(t, x.a, x.b, x.want)
		stands(t, x.a, x.a, 0)
		stands(t, x.b, slices.Clone(x.b), 0)
	}
	for _, l := range full() {
		stands(t, l, l, 0)
		stands(t, l, append(slices.Clone(l), null), -1)
		stands(t, l[:len(l)-1], l, -1)
	}
}

func TestSort(t *testing.T) { // 17.1
	sorts(t)
	sorts(t, nil)
	sorts(t, of(num(1), null))
	sorts(t, of(num(1)), of(num(2)))
	sorts(t, nil, nil, of(null), of(null), of(null, null), of(num(-1)), of(num(2)))
	sorts(t, of(num(2)), of(num(2)), of(num(2)), of(num(2)))
	sorts(t, of(num(1), text("a")), of(num(1), text("a")), of(num(1), text("b")), of(num(2)), of(num(2), null), of(text("")), of(no), of(yes, no))
	sorts(t, nil, of(null, yes), of(num(least)), of(num(-2)), of(num(-1)), of(num(9)), of(num(10)), of(num(most)), of(text("")), of(text("\x00")), of(text("10")), of(text("9")), of(text("\xFF")), of(no, no), of(yes))
	for _, l := range [][][]api.Value{nil, {}} {
		if got := row.Sort(l); len(got) != 0 {
			t.Errorf("Sort of nothing: %#v", got)
		}
	}
}

// TestSortOfAlikes: rows that are alike, but can be told from each other by fields that their values do not use, are told as they are, in the order in which they came.
func TestSortOfAlikes(t *testing.T) { // 17.1
	mark := func(v api.Value, n int) []api.Value {
		switch v.Type {
		case api.TInt, api.TBool:
			v.Text = strings.Repeat("m", n+1)
		default:
			v.Int = n + 1
		}
		return of(v, null)
	}
	ladder := []api.Value{kind(-1), null, num(1), num(2), text("a"), no, yes, kind(4)}
	var l, want [][]api.Value
	for n := range 50 {
		for i := range ladder {
			l = append(l, mark(ladder[(3*i+n)%len(ladder)], n))
		}
	}
	for _, v := range ladder {
		for n := range 50 {
			want = append(want, mark(v, n))
		}
	}
	if got := row.Sort(l); !alike(got, want) {
		t.Errorf("Sort: %s", brief(got))
	}
}

func TestText(t *testing.T) { // 17.1
	spells(t, "")
	spells(t, "", []api.Value{}...)
	spells(t, "NULL", null)
	spells(t, "NULL, NULL, NULL", null, null, null)
	spells(t, "0", num(0))
	spells(t, "1, -1, 9223372036854775807, -9223372036854775808", num(1), num(-1), num(most), num(least))
	spells(t, "TRUE, FALSE", yes, no)
	spells(t, "''", text(""))
	spells(t, "'', ''", text(""), text(""))
	spells(t, "'a', 'b'", text("a"), text("b"))
	spells(t, "'''', '''a''', 'a''''b'", text("'"), text("'a'"), text("a''b"))
	spells(t, "', ', 1", text(", "), num(1))
	spells(t, "'NULL', NULL", text("NULL"), null)
	spells(t, "'a\x00\n\xFF', TRUE, 7, NULL", text("a\x00\n\xFF"), yes, num(7), null)
	for _, n := range none() {
		spells(t, "NULL, 1", api.Value{Type: n, Int: 1, Text: "a", Bool: true}, num(1))
	}
	spells(t, strings.TrimSuffix(strings.Repeat("'x', ", 50000), ", "), slices.Repeat(of(text("x")), 50000)...)
}
