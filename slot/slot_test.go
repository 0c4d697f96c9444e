package slot_test

import (
	"bytes"
	"encoding/hex"
	"math"
	"slices"
	"strings"
	"testing"

	"palimpsest/api"
	"palimpsest/slot"
)

// made tells the page with these records, put one by one.
func made(t *testing.T, recs ...string) []byte {
	t.Helper()
	p := slot.New()
	for i, r := range recs {
		n, q, e := slot.Put(p, []byte(r))
		if e != api.OK || n != i {
			t.Fatal(n, e)
		}
		p = q
	}
	return p
}

// without tells the page without these slots' records.
func without(t *testing.T, p []byte, slots ...int) []byte {
	t.Helper()
	for _, i := range slots {
		q, e := slot.Del(p, i)
		if e != api.OK {
			t.Fatal(i, e)
		}
		p = q
	}
	return p
}

// spelt tells the page that begins and ends with these bytes, with noughts between.
func spelt(t *testing.T, front, back string) []byte {
	t.Helper()
	a, e := hex.DecodeString(strings.ReplaceAll(front, " ", ""))
	if e != nil {
		t.Fatal(e)
	}
	return append(append(a, make([]byte, 504-len(a)-len(back))...), back...)
}

// isNone holds every call to what it answers of bytes that are no page.
func isNone(t *testing.T, p []byte) {
	t.Helper()
	if slot.Check(p) {
		t.Fatalf("a page: %x", p)
	}
	for _, data := range [][]byte{nil, make([]byte, 480), make([]byte, 481)} { // ErrBad is ahead of ErrArg
		if n, q, e := slot.Put(p, data); n != 0 || q != nil || e != api.ErrBad {
			t.Fatal(n, q, e)
		}
		for _, i := range []int{-1, 0, 1} {
			if q, e := slot.Set(p, i, data); q != nil || e != api.ErrBad {
				t.Fatal(q, e)
			}
		}
	}
	for _, i := range []int{-1, 0, 1, 124} {
		if q, e := slot.Del(p, i); q != nil || e != api.ErrBad {
			t.Fatal(q, e)
		}
		if b, ok := slot.Get(p, i); b != nil || ok {
			t.Fatal(b, ok)
		}
	}
	if l := slot.Slots(p); len(l) > 0 {
		t.Fatal(l)
	}
	if n := slot.Free(p); n != 0 {
		t.Fatal(n)
	}
	if n := slot.Next(p); n != 0 {
		t.Fatal(n)
	}
	for _, n := range []int{0, 1, -1, 1 << 32} {
		if q := slot.SetNext(p, n); !bytes.Equal(q, p) {
			t.Fatalf("SetNext: %x", q)
		}
	}
}

func TestExamples(t *testing.T) { // the chapter's table
	p := slot.New()
	if !bytes.Equal(p[:6], make([]byte, 6)) || slot.Free(p) != 480 {
		t.Error(p[:6], slot.Free(p))
	}
	n, q, e := slot.Put(p, []byte("ab"))
	if n != 0 || e != api.OK {
		t.Error(n, e)
	}
	if b, ok := slot.Get(q, 0); string(b) != "ab" || !ok || !slices.Equal(slot.Slots(q), []int{0}) {
		t.Error(b, ok, slot.Slots(q))
	}
	if n, q, e := slot.Put(p, make([]byte, 481)); n != 0 || q != nil || e != api.ErrArg {
		t.Error(n, q, e)
	}
}

func TestNew(t *testing.T) { // 9.1
	p := slot.New()
	if !bytes.Equal(p, make([]byte, 504)) || !slot.Check(p) || slot.Next(p) != 0 || len(slot.Slots(p)) > 0 {
		t.Errorf("%x", p)
	}
}

func TestLayout(t *testing.T) { // 9.1
	p := slot.SetNext(made(t, "ab", "", "gone", "cde", ""), 0x01020304)
	p = without(t, p, 2)
	if want := spelt(t, "0005 01020304 01F6 0003 01F6 0001 0000 0000 01F3 0004 01F3 0001", "cdeab"); !bytes.Equal(p, want) {
		t.Errorf("%x\n%x", p, want)
	}
	if p, want := made(t, ""), spelt(t, "0001 00000000 01F8 0001", ""); !bytes.Equal(p, want) {
		t.Errorf("%x\n%x", p, want)
	}
	long := strings.Repeat("z", 480)
	if p, want := made(t, long), spelt(t, "0001 00000000 0018 01E1", long); !bytes.Equal(p, want) {
		t.Errorf("%x\n%x", p, want)
	}
}

func TestLengths(t *testing.T) { // 9.2
	for _, n := range []int{0, 1, 255, 256, 479, 480} {
		data := bytes.Repeat([]byte{7}, n)
		i, p, e := slot.Put(slot.New(), data)
		if i != 0 || e != api.OK {
			t.Fatal(n, i, e)
		}
		if b, ok := slot.Get(p, 0); !ok || !bytes.Equal(b, data) {
			t.Error(n, b, ok)
		}
		q, e := slot.Set(made(t, "other"), 0, data)
		if e != api.OK || !bytes.Equal(p, q) {
			t.Error(n, e)
		}
	}
	for _, n := range []int{481, 494, 495, 1000} {
		data := make([]byte, n)
		if i, p, e := slot.Put(slot.New(), data); i != 0 || p != nil || e != api.ErrArg {
			t.Error(n, i, p, e)
		}
		if i, p, e := slot.Put(made(t, strings.Repeat("x", 480)), data); i != 0 || p != nil || e != api.ErrArg { // ahead of ErrFull
			t.Error(n, i, p, e)
		}
		for _, i := range []int{0, 1, -1} { // ahead of ErrNone
			if p, e := slot.Set(made(t, "ab"), i, data); p != nil || e != api.ErrArg {
				t.Error(n, i, p, e)
			}
		}
	}
}

func TestFree(t *testing.T) { // 9.2
	for _, c := range []struct{ size, free int }{
		{0, 480}, {9, 480}, {10, 480}, {11, 479}, {100, 390}, {479, 11}, {480, 10},
	} {
		p := made(t, strings.Repeat("x", c.size))
		if n := slot.Free(p); n != c.free {
			t.Errorf("a record of %d: %d", c.size, n)
		}
		if i, _, e := slot.Put(p, make([]byte, c.free)); i != 1 || e != api.OK {
			t.Error(c, i, e)
		}
	}
	// Less than a slot is left: a record of no bytes has no room, though Free tells 0 of it, too.
	for lack := range 6 {
		p := made(t, strings.Repeat("x", 480), strings.Repeat("y", 2+lack)) // 8 - lack are left
		n, q, e := slot.Put(p, nil)
		want := api.OK
		if lack > 4 {
			want = api.ErrFull
		}
		if slot.Free(p) != max(4-lack, 0) || e != want || e != api.OK && (n != 0 || q != nil) {
			t.Error(lack, slot.Free(p), n, e)
		}
	}
}

func TestJustFull(t *testing.T) { // 9.2
	p := made(t, strings.Repeat("x", 300), "gone", strings.Repeat("y", 20))
	n := slot.Free(p)
	if n != 504-6-4*4-324 {
		t.Fatal(n)
	}
	i, q, e := slot.Put(p, make([]byte, n))
	if i != 3 || e != api.OK || slot.Free(q) != 0 {
		t.Fatal(i, e)
	}
	for _, data := range []string{"", "z"} {
		if i, r, e := slot.Put(q, []byte(data)); i != 0 || r != nil || e != api.ErrFull {
			t.Error(i, r, e)
		}
	}
	if i, r, e := slot.Put(p, make([]byte, n+1)); i != 0 || r != nil || e != api.ErrFull {
		t.Error(i, r, e)
	}
	// The slot of the one that goes is in the table already.
	h := without(t, p, 1)
	if slot.Free(h) != n+4 {
		t.Error(slot.Free(h))
	}
	if i, q, e := slot.Put(h, make([]byte, n+8)); i != 1 || e != api.OK || slot.Free(q) != 0 {
		t.Error(i, e)
	}
	if i, q, e := slot.Put(h, make([]byte, n+9)); i != 0 || q != nil || e != api.ErrFull {
		t.Error(i, q, e)
	}
}

func TestPutBetween(t *testing.T) { // 9.2
	p := without(t, made(t, "a", "bb", "ccc", "dddd", "eeeee"), 3, 1)
	i, p, e := slot.Put(p, []byte("BBBB"))
	if i != 1 || e != api.OK || !slices.Equal(slot.Slots(p), []int{0, 1, 2, 4}) {
		t.Fatal(i, e, slot.Slots(p))
	}
	i, p, e = slot.Put(p, nil)
	if i != 3 || e != api.OK {
		t.Fatal(i, e)
	}
	if want := made(t, "a", "BBBB", "ccc", "", "eeeee"); !bytes.Equal(p, want) {
		t.Errorf("%x\n%x", p, want)
	}
	if i, _, e := slot.Put(p, nil); i != 5 || e != api.OK {
		t.Error(i, e)
	}
}

func TestSet(t *testing.T) { // 9.2
	p := made(t, "a", "bb", "ccc")
	for _, c := range []string{"bbbbbb", "b", "", "BB", "bb", strings.Repeat("b", 480)} {
		q, e := slot.Set(p, 1, []byte(c))
		if want := made(t, "a", c, "ccc"); e != api.OK || !bytes.Equal(q, want) {
			t.Errorf("%d %x\n%x", e, q, want)
		}
	}
	for _, i := range []int{0, 2} {
		recs := []string{"a", "bb", "ccc"}
		recs[i] = ""
		if q, e := slot.Set(p, i, nil); e != api.OK || !bytes.Equal(q, made(t, recs...)) {
			t.Error(i, e)
		}
	}
	if q, e := slot.Set(without(t, p, 0), 2, []byte("dd")); e != api.OK || !bytes.Equal(q, without(t, made(t, "", "bb", "dd"), 0)) {
		t.Error(e)
	}
}

func TestSetJustFull(t *testing.T) { // 9.2
	p := made(t, strings.Repeat("x", 400), "a")
	if q, e := slot.Set(p, 1, make([]byte, 90)); e != api.OK || slot.Free(q) != 0 {
		t.Error(e)
	}
	if q, e := slot.Set(p, 1, make([]byte, 91)); q != nil || e != api.ErrFull {
		t.Error(q, e)
	}
	full, _ := slot.Set(p, 1, make([]byte, 90))
	if _, e := slot.Set(full, 0, make([]byte, 400)); e != api.OK {
		t.Error(e)
	}
	if q, e := slot.Set(full, 0, make([]byte, 401)); q != nil || e != api.ErrFull {
		t.Error(q, e)
	}
}

func TestDel(t *testing.T) { // 9.2
	p := made(t, "a", "bb", "ccc", "dddd")
	q := without(t, p, 1)
	if want := spelt(t, "0004 00000000 01F7 0002 0000 0000 01F4 0004 01F0 0005", "ddddccca"); !bytes.Equal(q, want) {
		t.Errorf("%x\n%x", q, want)
	}
	q = without(t, q, 2)
	if !slices.Equal(slot.Slots(q), []int{0, 3}) || q[1] != 4 {
		t.Error(slot.Slots(q), q[1])
	}
	if q = without(t, q, 3); !bytes.Equal(q, made(t, "a")) { // the empty ones ahead of it go, too
		t.Errorf("%x", q)
	}
	if q = without(t, q, 0); !bytes.Equal(q, slot.New()) {
		t.Errorf("%x", q)
	}
	if q = without(t, p, 0, 1, 2, 3); !bytes.Equal(q, slot.New()) {
		t.Errorf("%x", q)
	}
	if q = without(t, p, 1, 3); !bytes.Equal(q, without(t, made(t, "a", "x", "ccc"), 1)) { // up to one that holds something alone
		t.Errorf("%x", q)
	}
	if q = without(t, made(t, "a", "", "b"), 2); !bytes.Equal(q, made(t, "a", "")) { // a record of no bytes is there
		t.Errorf("%x", q)
	}
}

func TestNoSlot(t *testing.T) { // 9.2
	for _, c := range []struct {
		p     []byte
		first int
		hole  int
	}{
		{slot.New(), 0, 0},
		{made(t, "", ""), 2, 2},
		{without(t, made(t, "a", "bb", "ccc"), 1), 3, 1},
		{repeated(t, 124, nil), 124, 124},
	} {
		for _, i := range []int{c.hole, c.first, c.first + 1, -1, -2, 124, 125, 1 << 16, 1 << 32, math.MinInt, math.MaxInt} {
			if b, ok := slot.Get(c.p, i); b != nil || ok {
				t.Error(i, b, ok)
			}
			if q, e := slot.Set(c.p, i, make([]byte, 480)); q != nil || e != api.ErrNone { // ahead of ErrFull
				t.Error(i, q, e)
			}
			if q, e := slot.Del(c.p, i); q != nil || e != api.ErrNone {
				t.Error(i, q, e)
			}
		}
	}
}

func TestNext(t *testing.T) { // 9.2
	for _, p := range [][]byte{slot.New(), without(t, made(t, "a", "bb", "ccc"), 1), repeated(t, 124, nil)} {
		for _, n := range []int{1<<32 - 1, 0, 1, 255, 256, 1 << 16, 1 << 24, 1 << 31, 1<<32 - 2, 0x01020304} {
			q := slot.SetNext(p, n)
			if slot.Next(q) != n || !slot.Check(q) || !bytes.Equal(q[2:6], big(n, 4)) {
				t.Errorf("%d: %x", n, q)
			}
			if !bytes.Equal(q[:2], p[:2]) || !bytes.Equal(q[6:], p[6:]) {
				t.Errorf("%d: %x", n, q)
			}
			p = q
		}
		p = slot.SetNext(p, 5)
		for _, n := range []int{-1, -2, 1 << 32, 1<<32 + 1, 1 << 33, math.MinInt, math.MaxInt} {
			if q := slot.SetNext(p, n); !bytes.Equal(q, p) {
				t.Errorf("%d: %x", n, q)
			}
		}
	}
}

func TestNextStays(t *testing.T) { // 9.2, 9.3
	p := slot.SetNext(slot.New(), 77)
	_, p, _ = slot.Put(p, []byte("ab"))
	p, _ = slot.Set(p, 0, []byte("c"))
	if slot.Next(p) != 77 {
		t.Error(slot.Next(p))
	}
	if p = without(t, p, 0); slot.Next(p) != 77 || slot.Free(p) != 480 || !bytes.Equal(slot.SetNext(p, 0), slot.New()) {
		t.Errorf("%x", p)
	}
}

func TestMost(t *testing.T) { // 9.1, 9.2
	p := repeated(t, 124, nil)
	if p[1] != 124 || slot.Free(p) != 0 {
		t.Error(p[1], slot.Free(p))
	}
	if n, q, e := slot.Put(p, nil); n != 0 || q != nil || e != api.ErrFull {
		t.Error(n, q, e)
	}
	if _, e := slot.Set(p, 123, make([]byte, 2)); e != api.OK {
		t.Error(e)
	}
	if q, e := slot.Set(p, 0, make([]byte, 3)); q != nil || e != api.ErrFull {
		t.Error(q, e)
	}
	q := without(t, p, 50)
	if n, q, e := slot.Put(q, make([]byte, 2)); n != 50 || e != api.OK || !slot.Check(q) {
		t.Error(n, e)
	}
	if q = without(t, p, 123); slot.Free(q) != 2 {
		t.Error(slot.Free(q))
	}
}

func TestOtherLengths(t *testing.T) { // 9.1, 9.2
	for _, p := range [][]byte{slot.New(), made(t, "ab", "c")} {
		for _, n := range []int{0, 1, 5, 6, 10, 503} {
			isNone(t, p[:n])
			isNone(t, p[504-n:])
		}
		isNone(t, append(slices.Clone(p), 0))
		isNone(t, append(slices.Clone(p), p...))
	}
	isNone(t, nil)
	isNone(t, make([]byte, 512))
	isNone(t, make([]byte, 1<<17))
}

func TestNoPage(t *testing.T) { // 9.1, 9.2: each line ails in one way
	long := strings.Repeat("z", 481)
	for _, c := range []struct{ what, front, back string }{
		{"a record begins too low", "0001 00000000 01F5 0003", "ab"},
		{"a record begins too high", "0001 00000000 01F7 0003", "ab"},
		{"a record ends ahead of the page's end", "0001 00000000 01F5 0003", "ab\x00"},
		{"a record ends beyond the page's end", "0001 00000000 01F6 0004", "ab"},
		{"a record has a length too few", "0001 00000000 01F6 0002", "ab"},
		{"a record of no bytes begins elsewhere", "0001 00000000 01F7 0001", ""},
		{"a record of no bytes begins at 0", "0001 00000000 0000 0001", ""},
		{"two records in the other order", "0002 00000000 01F4 0003 01F6 0003", "abcd"},
		{"two records on one place", "0002 00000000 01F6 0003 01F6 0003", "ab"},
		{"a gap between two records", "0002 00000000 01F6 0003 01F3 0003", "cd\x00ab"},
		{"a record with an empty slot's bytes left between", "0003 00000000 01F6 0003 0000 0000 01F2 0003", "cd\x00\x00ab"},
		{"a record begins within the table", "0002 00000000 0018 01E1 000D 000C", strings.Repeat("y", 10) + strings.Repeat("z", 480)},
		{"a record begins within the head", "0001 00000000 0000 01F9", ""},
		{"a record's place is beyond the page", "0001 00000000 01F9 0001", ""},
		{"a record's length is the greatest", "0001 00000000 01F6 FFFF", "ab"},
		{"a record's place and length are the greatest", "0001 00000000 FFFF FFFF", "ab"},
		{"a record has 481 bytes", "0001 00000000 0017 01E2", long},
		{"an empty slot has a place", "0002 00000000 01F8 0000 01F6 0003", "ab"},
		{"an empty slot has a place of its highest byte", "0002 00000000 0100 0000 01F6 0003", "ab"},
		{"the last slot is empty", "0002 00000000 01F6 0003 0000 0000", "ab"},
		{"all slots are empty", "0002 00000000 0000 0000 0000 0000", ""},
		{"the only slot is empty", "0001 00000000 0000 0000", ""},
		{"a byte behind the table", "0001 00000000 01F6 0003 01", "ab"},
		{"a byte ahead of the records", "0001 00000000 01F6 0003", "\x01ab"},
		{"a byte behind no table", "0000 00000000 01", ""},
		{"a byte at the end, and no records", "0000 00000000", "\x01"},
		{"more slots than the table has", "0003 00000000 01F6 0003", "ab"},
		{"fewer slots than the table has", "0001 00000000 01F6 0003 01F4 0003", "cdab"},
		{"no slots, but a table", "0000 00000000 01F6 0003", "ab"},
		{"the count is that of its highest byte", "0100 00000000 01F6 0003", "ab"},
		{"more slots than fit", "007D 00000000", ""},
		{"far more slots than fit", "FFFF 00000000", ""},
	} {
		p := spelt(t, c.front, c.back)
		if slot.Check(p) {
			t.Error(c.what)
		}
		isNone(t, p)
	}
	for _, n := range []int{125, 126, 1<<16 - 1} { // their slots spelt as far as the page goes
		p := repeated(t, 124, nil)
		copy(p, big(n, 2))
		isNone(t, p)
	}
}

// within tells b with spare room behind it, and a look whether anything of both was changed.
func within(b []byte) ([]byte, func() bool) {
	room := append(slices.Clone(b), bytes.Repeat([]byte{0xEE}, 64)...)
	was := slices.Clone(room)
	return room[:len(b)], func() bool { return bytes.Equal(room, was) }
}

// spoil writes all over an answer, its spare room too.
func spoil(b []byte) {
	b = b[:cap(b)]
	for i := range b {
		b[i] ^= 0xFF
	}
}

func TestMemory(t *testing.T) { // 9.5, DOC's rule 3
	held := without(t, made(t, "a", "bb", "", "dddd"), 1)
	bad := slices.Clone(held)
	bad[1]++
	for _, b := range [][]byte{held, slot.New(), repeated(t, 124, nil), made(t, strings.Repeat("x", 480)), bad, nil, {}, held[:100]} {
		p, pSame := within(b)
		for _, d := range []string{"", "xyz", strings.Repeat("y", 480), strings.Repeat("y", 481)} {
			data, dSame := within([]byte(d))
			_, q, _ := slot.Put(p, data)
			spoil(q)
			for i := -1; i < 5; i++ {
				q, _ = slot.Set(p, i, data)
				spoil(q)
			}
			if !dSame() || !pSame() {
				t.Fatal("Put or Set changed what it was handed", d)
			}
		}
		for i := -1; i < 5; i++ {
			q, _ := slot.Del(p, i)
			spoil(q)
			q, _ = slot.Get(p, i)
			spoil(q)
		}
		for _, n := range []int{-1, 0, 1, 1 << 32} {
			spoil(slot.SetNext(p, n))
		}
		l := slot.Slots(p)
		clear(l[:cap(l)])
		slot.Check(p)
		slot.Free(p)
		slot.Next(p)
		if !pSame() {
			t.Fatal("a page was changed")
		}
	}
	spoil(slot.New())
	if !bytes.Equal(slot.New(), make([]byte, 504)) {
		t.Error("New tells memory that was told before")
	}
}
