package key_test

import (
	"bytes"
	"encoding/hex"
	"math"
	"math/rand"
	"slices"
	"strings"
	"testing"

	"palimpsest/api"
	"palimpsest/key"
)

func num(n int) api.Value     { return api.Value{Type: api.TInt, Int: n} }
func text(s string) api.Value { return api.Value{Type: api.TText, Text: s} }
func truth(b bool) api.Value  { return api.Value{Type: api.TBool, Bool: b} }

// none are Types that the chapter does not tell; some of them are a told one again, if only their lowest bits are minded.
func none() []int {
	return []int{math.MinInt, -1 << 32, -256, -255, -4, -3, -2, -1, 4, 5, 9, 255, 256, 257, 258, 259, 1 << 32, 1<<32 + 2, math.MaxInt}
}

func spell(t *testing.T, s string) []byte {
	t.Helper()
	b, e := hex.DecodeString(strings.Join(strings.Fields(s), ""))
	if e != nil {
		t.Fatal(e)
	}
	return b
}

// pair is a value, and its bytes as the chapter spells them.
type pair struct {
	v     api.Value
	spelt string
}

func pairs() []pair {
	return []pair{
		{api.Value{}, "00"},
		{num(math.MinInt), "01 0000000000000000"},
		{num(math.MinInt + 1), "01 0000000000000001"},
		{num(-256), "01 7FFFFFFFFFFFFF00"},
		{num(-1), "01 7FFFFFFFFFFFFFFF"},
		{num(0), "01 8000000000000000"},
		{num(1), "01 8000000000000001"},
		{num(255), "01 80000000000000FF"},
		{num(256), "01 8000000000000100"},
		{num(0x0102030405060708), "01 8102030405060708"},
		{num(math.MaxInt - 1), "01 FFFFFFFFFFFFFFFE"},
		{num(math.MaxInt), "01 FFFFFFFFFFFFFFFF"},
		{text(""), "02 0000"},
		{text("\x00"), "02 00FF 0000"},
		{text("\x00\x00"), "02 00FF 00FF 0000"},
		{text("\x00\x00\x00\x00"), "02 00FF 00FF 00FF 00FF 0000"},
		{text("\x00\x01"), "02 00FF 01 0000"},
		{text("\x00\xFF"), "02 00FF FF 0000"},
		{text("\x01"), "02 01 0000"},
		{text("a"), "02 61 0000"},
		{text("a\x00"), "02 61 00FF 0000"},
		{text("a\x00b"), "02 61 00FF 62 0000"},
		{text("ab"), "02 61 62 0000"},
		{text("b"), "02 62 0000"},
		{text("\xC3\xA9"), "02 C3A9 0000"},
		{text("\xFF"), "02 FF 0000"},
		{text("\xFF\x00"), "02 FF 00FF 0000"},
		{text("\xFF\x00\xFF"), "02 FF 00FF FF 0000"},
		{text("\xFF\xFF"), "02 FF FF 0000"},
		{truth(false), "03 00"},
		{truth(true), "03 01"},
	}
}

// reads wants b to begin with v, of so many bytes.
func reads(t *testing.T, what string, b []byte, v api.Value, size int) {
	t.Helper()
	x, n, ok := key.Decode(b)
	if !ok || n != size || x != v {
		t.Fatalf("%s: Decode(%X) = %#v, %d, %v; want %#v, %d", what, b, x, n, ok, v, size)
	}
}

// refuses wants b to begin with no value, so that it is no list of values either, and nothing told beside that.
func refuses(t *testing.T, what string, b []byte) {
	t.Helper()
	x, n, ok := key.Decode(b)
	if ok || n != 0 || x != (api.Value{}) {
		t.Fatalf("%s: Decode(%X) = %#v, %d, %v; want nothing", what, b, x, n, ok)
	}
	if len(b) > 0 {
		noList(t, what, b)
	}
}

// noList wants b to be no list's bytes.
func noList(t *testing.T, what string, b []byte) {
	t.Helper()
	if l, ok := key.Split(b); ok || len(l) != 0 {
		t.Fatalf("%s: Split(%X) = %#v, %v; want nothing", what, b, l, ok)
	}
}

// splits wants b to be the bytes of l.
func splits(t *testing.T, what string, b []byte, l []api.Value) {
	t.Helper()
	if m, ok := key.Split(b); !ok || !slices.Equal(m, l) {
		t.Fatalf("%s: Split(%X) = %#v, %v; want %#v", what, b, m, ok, l)
	}
}

func TestExamples(t *testing.T) { // the chapter's table
	if b := key.Encode(num(0)); string(b) != "\x01\x80\x00\x00\x00\x00\x00\x00\x00" {
		t.Errorf("Encode: %X", b)
	}
	if b := key.Encode(text("a\x00")); string(b) != "\x02\x61\x00\xFF\x00\x00" {
		t.Errorf("Encode: %X", b)
	}
	if n := key.Compare(api.Value{}, num(0)); n != -1 {
		t.Errorf("Compare: %d", n)
	}
	if n := key.Compare(text("b"), text("ab")); n != 1 {
		t.Errorf("Compare: %d", n)
	}
}

func TestEncode(t *testing.T) { // 11.2
	for _, x := range pairs() {
		if b := key.Encode(x.v); !bytes.Equal(b, spell(t, x.spelt)) {
			t.Errorf("Encode(%#v) = %X, want %s", x.v, b, x.spelt)
		}
	}
}

func TestDecode(t *testing.T) { // 11.2
	for _, x := range pairs() {
		b := spell(t, x.spelt)
		reads(t, "alone", b, x.v, len(b))
	}
}

// TestTypesThatAreNone: their Encode is TNull's, whatever their fields are, and is read as TNull.
func TestTypesThatAreNone(t *testing.T) { // 11.2
	for _, n := range none() {
		for _, v := range []api.Value{{Type: n}, {Type: n, Int: 7}, {Type: n, Text: "a"}, {Type: n, Bool: true}, {Type: n, Int: -1, Text: "\x00", Bool: true}} {
			b := key.Encode(v)
			if !bytes.Equal(b, []byte{0}) || !bytes.Equal(key.Join([]api.Value{v, num(1), v}), slices.Concat(b, key.Encode(num(1)), b)) {
				t.Errorf("Encode(%#v) = %X", v, b)
			}
			reads(t, "a Type that is none", b, api.Value{}, 1)
		}
	}
}

// loaded is a value with all fields set, the ones that its Type does not use too.
func loaded(v api.Value, n int, s string, b bool) api.Value {
	full := api.Value{Type: v.Type, Int: n, Text: s, Bool: b}
	switch v.Type {
	case api.TInt:
		full.Int = v.Int
	case api.TText:
		full.Text = v.Text
	case api.TBool:
		full.Bool = v.Bool
	}
	return full
}

// TestFieldsOfOtherTypes: they make no difference, and are not read back.
func TestFieldsOfOtherTypes(t *testing.T) { // 11.1, 11.2
	for _, x := range pairs() {
		full, other := loaded(x.v, 99, "zz", true), loaded(x.v, -99, "\x00", false)
		b := spell(t, x.spelt)
		if got := key.Encode(full); !bytes.Equal(got, b) {
			t.Errorf("Encode(%#v) = %X, want %X", full, got, b)
		}
		reads(t, "fields of other Types", key.Encode(full), x.v, len(b))
		if key.Compare(full, x.v) != 0 || key.Compare(x.v, full) != 0 || key.Compare(full, other) != 0 {
			t.Errorf("Compare minds fields of other Types: %#v", full)
		}
		for _, y := range pairs() {
			if want := key.Compare(x.v, y.v); key.Compare(full, loaded(y.v, -99, "\x00", false)) != want {
				t.Errorf("Compare minds fields of other Types: %#v, %#v, want %d", full, y.v, want)
			}
		}
	}
}

func TestCompare(t *testing.T) { // 11.1
	for _, x := range []struct {
		a, b api.Value
		want int
	}{
		{api.Value{}, api.Value{}, 0},
		{api.Value{}, num(math.MinInt), -1},
		{num(math.MaxInt), text(""), -1},
		{text("\xFF\xFF\xFF"), truth(false), -1},
		{num(math.MinInt), num(math.MaxInt), -1}, // one less the other would not fit into an int
		{num(math.MinInt), num(1), -1},
		{num(-2), num(-1), -1},
		{num(-1), num(0), -1},
		{num(-1), num(1), -1},
		{num(9), num(10), -1},
		{num(1 << 32), num(1), 1},
		{num(5), num(5), 0},
		{text(""), text("\x00"), -1},
		{text("a"), text("ab"), -1},
		{text("a"), text("a\x00"), -1},
		{text("a\x00"), text("ab"), -1},
		{text("Z"), text("a"), -1},
		{text("\x7F"), text("\x80"), -1},
		{text("\xC3\xA9"), text("\xFF"), -1}, // bytes, not letters
		{text("\xFF"), text("\xFF"), 0},
		{text("b"), text("ab"), 1},
		{truth(false), truth(true), -1},
		{truth(false), truth(false), 0},
		{truth(true), truth(true), 0},
	} {
		if n := key.Compare(x.a, x.b); n != x.want {
			t.Errorf("Compare(%#v, %#v) = %d, want %d", x.a, x.b, n, x.want)
		}
		if n := key.Compare(x.b, x.a); n != -x.want {
			t.Errorf("Compare(%#v, %#v) = %d, want %d", x.b, x.a, n, -x.want)
		}
	}
}

// TestCompareOfNone: values of a Type that is none stand by that number alone.
func TestCompareOfNone(t *testing.T) { // 11.1
	all := slices.Sorted(slices.Values(append(none(), api.TNull, api.TInt, api.TText, api.TBool)))
	for i, a := range all {
		for j, b := range all {
			want := 0
			if i < j {
				want = -1
			} else if i > j {
				want = 1
			}
			if n := key.Compare(api.Value{Type: a}, api.Value{Type: b}); n != want {
				t.Errorf("Compare of Types %d and %d: %d", a, b, n)
			}
		}
	}
	for _, n := range none() {
		v := api.Value{Type: n, Int: 1, Text: "a"}
		for _, w := range []api.Value{{Type: n}, {Type: n, Int: 2}, {Type: n, Text: "b"}, {Type: n, Bool: true}} {
			if key.Compare(v, w) != 0 || key.Compare(w, v) != 0 {
				t.Errorf("Compare(%#v, %#v) minds more than the Type", v, w)
			}
		}
		for _, x := range pairs() {
			want := -1
			if n > x.v.Type {
				want = 1
			}
			if key.Compare(v, x.v) != want || key.Compare(x.v, v) != -want {
				t.Errorf("Compare(%#v, %#v), want %d", v, x.v, want)
			}
		}
	}
}

func TestCutShort(t *testing.T) { // 11.2
	refuses(t, "nil", nil)
	refuses(t, "no bytes", []byte{})
	for _, x := range pairs() {
		b := spell(t, x.spelt)
		for i := range b {
			refuses(t, "bytes cut short", b[:i])
			refuses(t, "bytes cut short, the others out of reach", b[:i:i])
		}
	}
}

func TestFirstBytes(t *testing.T) { // 11.2
	for i := 4; i < 256; i++ {
		for _, behind := range []string{"", "\x00", "\x01", "\x00\x00", "a\x00\x00", "\x80\x00\x00\x00\x00\x00\x00\x00", strings.Repeat("\x00", 40)} {
			refuses(t, "a first byte that is no Type", append([]byte{byte(i)}, behind...))
		}
	}
}

func TestBytesOfBools(t *testing.T) { // 11.2
	for i := 2; i < 256; i++ {
		refuses(t, "a bool that is neither", []byte{3, byte(i)})
		refuses(t, "a bool that is neither, with noughts behind", []byte{3, byte(i), 0, 0})
	}
}

func TestNoughtsWithinTexts(t *testing.T) { // 11.2
	for i := 1; i < 255; i++ {
		for _, ahead := range []string{"", "a", "\x00\xFF", "a\x00\xFFb", "\xFF"} {
			b := append(append([]byte{2}, ahead...), 0, byte(i))
			refuses(t, "a nought and a wrong byte", b)
			refuses(t, "a nought and a wrong byte, with an end behind", append(b, 0, 0, 0))
		}
	}
	for _, s := range []string{"\x02\x00", "\x02\x00\xFF", "\x02\x00\xFF\x00", "\x02\x00\xFF\xFF\x00", "\x02a", "\x02\xFF", "\x02a\x00\xFF\xFF"} {
		refuses(t, "a text without its end", []byte(s))
	}
	reads(t, "an end, then a nought and a wrong byte", []byte("\x02\x00\x00\x00\x05"), text(""), 3)
	reads(t, "an end, then what would go on", []byte("\x02a\x00\x00\xFF\x00\x00"), text("a"), 4)
	reads(t, "a nought and an end", []byte("\x02\x00\xFF\x00\x00\xFF"), text("\x00"), 5)
}

func TestOthersBehind(t *testing.T) { // 11.2
	for _, x := range pairs() {
		b := spell(t, x.spelt)
		for _, behind := range [][]byte{{0}, {1}, {5}, {0xFF}, {0, 0}, {0, 0xFF}, {0, 5}, {0xFF, 0xFF}, make([]byte, 50), bytes.Repeat([]byte{0xFF}, 50)} {
			reads(t, "with others behind", slices.Concat(b, behind), x.v, len(b))
		}
		for _, y := range pairs() {
			reads(t, "with a value behind", slices.Concat(b, spell(t, y.spelt)), x.v, len(b))
		}
	}
}

func TestJoinAndSplit(t *testing.T) { // 11.2
	if b := key.Join(nil); len(b) != 0 {
		t.Errorf("Join of nothing: %X", b)
	}
	if b := key.Join([]api.Value{}); len(b) != 0 {
		t.Errorf("Join of an empty list: %X", b)
	}
	splits(t, "nil", nil, nil)
	splits(t, "no bytes", []byte{}, nil)
	var all []api.Value
	var b []byte
	for _, x := range pairs() {
		all = append(all, x.v)
		b = append(b, spell(t, x.spelt)...)
		splits(t, "one value", spell(t, x.spelt), []api.Value{x.v})
		splits(t, "all so far", b, all)
		if got := key.Join(all); !bytes.Equal(got, b) {
			t.Fatalf("Join(%#v) = %X, want %X", all, got, b)
		}
		for _, y := range pairs() {
			l := []api.Value{x.v, y.v}
			if got := key.Join(l); !bytes.Equal(got, spell(t, x.spelt+y.spelt)) {
				t.Fatalf("Join(%#v) = %X", l, got)
			}
			splits(t, "two values", spell(t, x.spelt+y.spelt), l)
		}
	}
}

// TestSplitCutShort: bytes of a list are cut at each place; between two values what is left is a list again.
func TestSplitCutShort(t *testing.T) { // 11.2
	var l []api.Value
	ends := []int{0}
	for _, x := range pairs() {
		l = append(l, x.v)
		ends = append(ends, ends[len(ends)-1]+len(spell(t, x.spelt)))
	}
	b := key.Join(l)
	for i := range len(b) + 1 {
		if n := slices.Index(ends, i); n >= 0 {
			splits(t, "cut between two", b[:i], l[:n])
			continue
		}
		noList(t, "cut within one", b[:i])
	}
}

func TestSplitLeftOver(t *testing.T) { // 11.2
	for _, x := range pairs() {
		b := spell(t, x.spelt)
		for _, behind := range [][]byte{{1}, {2}, {3}, {4}, {5}, {0xFF}, {0, 4}, {0, 9}, {1, 0, 0}, {2, 0}, {2, 'a'}, {2, 0, 1}, {2, 0, 0xFF}, {3, 2}, {3, 0, 0xFF}} {
			noList(t, "bytes left over", slices.Concat(b, behind))
		}
		splits(t, "a nought left over is a value", append(b, 0), []api.Value{x.v, {}})
	}
}

// random makes a value of a told Type; texts are of few unlike bytes, so that many begin alike.
func random(g *rand.Rand) api.Value {
	switch g.Intn(5) {
	case 0:
		return api.Value{}
	case 1:
		return truth(g.Intn(2) == 1)
	case 2:
		return num(int(g.Uint64()) >> g.Intn(64))
	}
	b := make([]byte, g.Intn(7))
	for i := range b {
		b[i] = "\x00\x00\x01a\xFE\xFF"[g.Intn(6)]
	}
	return text(string(b))
}

func TestManyValues(t *testing.T) { // 11.2, 11.4
	g := rand.New(rand.NewSource(1))
	var l []api.Value
	for range 100000 {
		l = append(l, random(g))
	}
	b := key.Join(l)
	at := 0
	for i, v := range l {
		x, n, ok := key.Decode(b[at:])
		if !ok || x != v || !bytes.Equal(b[at:at+n], key.Encode(v)) {
			t.Fatalf("value %d: %#v, %d, %v; want %#v", i, x, n, ok, v)
		}
		at += n
	}
	if at != len(b) {
		t.Errorf("%d bytes are left", len(b)-at)
	}
	if m, ok := key.Split(b); !ok || !slices.Equal(m, l) {
		t.Errorf("Split: %d values, %v", len(m), ok)
	}
	if m, ok := key.Split(append(b, 7)); ok || len(m) != 0 {
		t.Errorf("Split with a byte left over: %d values, %v", len(m), ok)
	}
}

func TestLongTexts(t *testing.T) { // 11.2, 11.4
	for _, s := range []string{"a", "\x00", "\xFF", "\x00\xFF", "\xFF\x00", "a\x00\x00"} {
		v := text(strings.Repeat(s, 300000))
		b := key.Encode(v)
		want := len(v.Text) + strings.Count(v.Text, "\x00") + 3
		if len(b) != want {
			t.Fatalf("%d bytes of %q, want %d", len(b), s, want)
		}
		if x, n, ok := key.Decode(b); !ok || n != want || x != v {
			t.Fatalf("Decode of many %q: %d, %v", s, n, ok)
		}
		for _, cut := range []int{1, 2} {
			if _, _, ok := key.Decode(b[:want-cut]); ok {
				t.Fatalf("Decode of many %q, cut short", s)
			}
		}
	}
}

// spare makes the same list with 64 more items of room behind it, filled by fill.
func spare[T any](l []T, fill T) []T {
	room := append([]T{}, l...)
	for range 64 {
		room = append(room, fill)
	}
	return room[:len(l)]
}

// smear writes over a list and the room behind it.
func smear[T any](l []T, v T) {
	l = l[:cap(l)]
	for i := range l {
		l[i] = v
	}
}

func values() []api.Value {
	var l []api.Value
	for _, x := range pairs() {
		l = append(l, x.v)
	}
	return l
}

func TestHandedInIsNotChanged(t *testing.T) { // rule 3 of the document
	l := spare(append(values(), api.Value{Type: 9, Int: 3}), api.Value{Type: 7, Text: "room"})
	before := slices.Clone(l[:cap(l)])
	b := spare(key.Join(l), 0x77)
	if !slices.Equal(l[:cap(l)], before) {
		t.Error("Join changed what it was handed")
	}
	for _, b := range [][]byte{b, spare(b[:len(b)-2], 0x77), spare([]byte("\x02a\x00"), 0), spare([]byte("\x01\x00"), 0)} {
		before := bytes.Clone(b[:cap(b)])
		key.Decode(b)
		key.Split(b)
		if !bytes.Equal(b[:cap(b)], before) {
			t.Errorf("Decode or Split changed what it was handed: %X", before)
		}
	}
}

func TestToldIsNewMemory(t *testing.T) { // rule 3 of the document
	for _, x := range pairs() {
		b, other := key.Encode(x.v), key.Encode(x.v)
		smear(b, 0xEE)
		if !bytes.Equal(other, spell(t, x.spelt)) || !bytes.Equal(key.Encode(x.v), other) {
			t.Errorf("two answers of Encode share memory: %#v", x.v)
		}
		c := spare(other, 0)
		v, _, _ := key.Decode(c)
		smear(c, 0xEE)
		if v != x.v {
			t.Errorf("Decode told memory of what it was handed: %#v", v)
		}
	}
	b, other := key.Join(values()), key.Join(values())
	smear(b, 0xEE)
	if m, ok := key.Split(other); !ok || !slices.Equal(m, values()) {
		t.Error("two answers of Join share memory")
	}
	one, _ := key.Split(other)
	two, _ := key.Split(other)
	smear(one, api.Value{Type: 8})
	smear(other, 0xEE)
	if !slices.Equal(two, values()) {
		t.Error("Split told memory of what it was handed, or of another answer")
	}
}

// TestNothingIsKept: what was asked ahead makes no difference.
func TestNothingIsKept(t *testing.T) { // rule 5 of the language
	g := rand.New(rand.NewSource(2))
	for range 3000 {
		x, y := pairs()[g.Intn(len(pairs()))], pairs()[g.Intn(len(pairs()))]
		key.Encode(y.v)
		key.Decode(spell(t, y.spelt))
		key.Split([]byte("\x02a\x00"))
		if b := key.Encode(x.v); !bytes.Equal(b, spell(t, x.spelt)) {
			t.Fatalf("Encode(%#v) = %X behind one of %#v", x.v, b, y.v)
		}
		reads(t, "behind others", spell(t, x.spelt), x.v, len(spell(t, x.spelt)))
	}
}
