package heap_test

import (
	"bytes"
	"math"
	"slices"
	"testing"

	"palimpsest/api"
	"palimpsest/dev"
	"palimpsest/heap"
	"palimpsest/rec"
	"palimpsest/redo"
	"palimpsest/slot"
	"palimpsest/space"
	"palimpsest/store"
)

// ready opens a store of a new device whose map is formatted.
func ready(t *testing.T, sectors, frames int) (*store.Store, *dev.Dev) {
	t.Helper()
	d, e := dev.New(sectors)
	fine(t, e)
	s := again(t, d, frames)
	x := begin(t, s)
	fine(t, space.Format(s, x))
	fine(t, s.Commit(x))
	return s, d
}

// again opens a store of a device that has been used.
func again(t *testing.T, d *dev.Dev, frames int) *store.Store {
	t.Helper()
	s, e := store.Open(d, frames)
	if e != api.OK {
		t.Fatal("Open: ", e)
	}
	return s
}

func begin(t *testing.T, s *store.Store) int {
	t.Helper()
	x, e := s.Begin()
	if e != api.OK {
		t.Fatal("Begin: ", e)
	}
	return x
}

func save(t *testing.T, s *store.Store, x int) int {
	t.Helper()
	mark, e := s.Save(x)
	if e != api.OK {
		t.Fatal("Save: ", e)
	}
	return mark
}

// fine takes what a call answered that must go well.
func fine(t *testing.T, e api.Errno) {
	t.Helper()
	if e != api.OK {
		t.Fatal(e)
	}
}

// refused takes what a call answered that must not.
func refused(t *testing.T, e, want api.Errno) {
	t.Helper()
	if e != want {
		t.Fatalf("answered %d, want %d", e, want)
	}
}

func at(page, slot int) api.RID {
	return api.RID{Page: page, Slot: slot}
}

// filled tells a record of n bytes, unlike those of other letters.
func filled(letter byte, n int) []byte {
	return bytes.Repeat([]byte{letter}, n)
}

func makes(t *testing.T, s *store.Store, x, want int) int {
	t.Helper()
	h, e := heap.Make(s, x)
	if h != want || e != api.OK {
		t.Fatalf("Make is %d, %d, want %d", h, e, want)
	}
	return h
}

func inserts(t *testing.T, s *store.Store, x, h int, data []byte, want api.RID) {
	t.Helper()
	if r, e := heap.Insert(s, x, h, data); r != want || e != api.OK {
		t.Fatalf("Insert is %v, %d, want %v", r, e, want)
	}
}

func updates(t *testing.T, s *store.Store, x, h int, r api.RID, data []byte, want api.RID) {
	t.Helper()
	if q, e := heap.Update(s, x, h, r, data); q != want || e != api.OK {
		t.Fatalf("Update is %v, %d, want %v", q, e, want)
	}
}

func deletes(t *testing.T, s *store.Store, x, h int, r api.RID) {
	t.Helper()
	if e := heap.Delete(s, x, h, r); e != api.OK {
		t.Fatalf("Delete is %d", e)
	}
}

// chained holds that a heap's chain is these pages.
func chained(t *testing.T, s *store.Store, h int, want ...int) {
	t.Helper()
	if l, e := heap.Pages(s, h); !slices.Equal(l, want) || e != api.OK {
		t.Fatalf("Pages is %v, %d, want %v", l, e, want)
	}
}

// item is a record under its place.
type item struct {
	r    api.RID
	data []byte
}

// holds holds that a heap has just these records, in this order, each by Scan and by Get.
func holds(t *testing.T, s *store.Store, h int, want ...item) {
	t.Helper()
	rids, l, e := heap.Scan(s, h)
	if e != api.OK || len(rids) != len(want) || len(l) != len(want) {
		t.Fatalf("Scan is %v, %q, %d, want %v", rids, l, e, want)
	}
	for i, x := range want {
		if rids[i] != x.r || !bytes.Equal(l[i], x.data) {
			t.Fatalf("Scan's item %d is %v: %q, want %v: %q", i, rids[i], l[i], x.r, x.data)
		}
		if b, e := heap.Get(s, x.r); !bytes.Equal(b, x.data) || e != api.OK {
			t.Fatalf("Get(%v) is %q, %d, want %q", x.r, b, e, x.data)
		}
	}
}

// taken holds that of all pages just these are taken.
func taken(t *testing.T, s *store.Store, want ...int) {
	t.Helper()
	for p := range s.Pages() {
		if is, e := space.Taken(s, p); is != slices.Contains(want, p) || e != api.OK {
			t.Fatalf("Taken(%d) is %v, %d; want %v", p, is, e, want)
		}
	}
}

// whole tells the bytes of all pages.
func whole(t *testing.T, s *store.Store) []byte {
	t.Helper()
	var l []byte
	for p := range s.Pages() {
		b, e := s.Read(p, 0, api.PageData)
		if e != api.OK {
			t.Fatal("Read: ", e)
		}
		l = append(l, b...)
	}
	return l
}

// still holds that a call neither told the log anything nor changed a page.
func still(t *testing.T, s *store.Store, call func()) {
	t.Helper()
	log, was := len(s.Log()), whole(t, s)
	call()
	if n := len(s.Log()); n != log {
		t.Fatalf("%d records, there were %d", n, log)
	}
	if !bytes.Equal(whole(t, s), was) {
		t.Fatal("a page is not what it was")
	}
}

// told tells the records that a call put behind the log.
func told(s *store.Store, call func()) []redo.Line {
	n := len(s.Log())
	call()
	return s.Log()[n:]
}

// wrote holds that a record is an update of these bytes that has no byte at either end that stays.
func wrote(t *testing.T, r api.Rec, page, off, end int) {
	t.Helper()
	if r.Kind != api.RUpdate || r.Page != page || r.Off != off || r.Off+len(r.After) != end {
		t.Fatalf("the record is of page %d, bytes %d to %d; want page %d, %d to %d", r.Page, r.Off, r.Off+len(r.After), page, off, end)
	}
	k := len(r.After) - 1
	if r.Before[0] == r.After[0] || r.Before[k] == r.After[k] {
		t.Fatal("the record tells a byte that stays")
	}
}

// cost tells what a log must have room for, that n bytes be written.
func cost(n int) int {
	r := api.Rec{Kind: api.RUpdate, Before: make([]byte, n), After: make([]byte, n)}
	return rec.Size(r) + rec.Size(api.Rec{Kind: api.RClr, After: r.Before})
}

// next makes a page's Next lead elsewhere, by the store alone.
func next(t *testing.T, s *store.Store, x, page, to int) {
	t.Helper()
	b, e := s.Read(page, 0, api.PageData)
	fine(t, e)
	fine(t, s.Write(x, page, 0, slot.SetNext(b, to)))
}

// The chapter's examples.
func TestExamples(t *testing.T) {
	s, _ := ready(t, 2048, 4)
	x := begin(t, s)
	h := makes(t, s, x, 1)
	inserts(t, s, x, h, []byte("ab"), at(h, 0))
	holds(t, s, h, item{at(h, 0), []byte("ab")})
	inserts(t, s, x, h, filled('c', 300), at(h, 1))
	inserts(t, s, x, h, filled('d', 300), at(2, 0))
	holds(t, s, h, item{at(h, 0), []byte("ab")}, item{at(h, 1), filled('c', 300)}, item{at(2, 0), filled('d', 300)})
}

// 10.1: a page that nobody had needs no Write; one that somebody had gets a single one.
func TestMake(t *testing.T) {
	s, _ := ready(t, 2048, 2)
	x := begin(t, s)
	log := told(s, func() { makes(t, s, x, 1) })
	if len(log) != 1 {
		t.Fatalf("%d records", len(log))
	}
	wrote(t, log[0].Rec, 0, 1, 2)
	fine(t, s.Write(x, 2, 7, []byte("what another one left")))
	log = told(s, func() { makes(t, s, x, 2) })
	if len(log) != 2 {
		t.Fatalf("%d records", len(log))
	}
	wrote(t, log[0].Rec, 0, 2, 3)
	wrote(t, log[1].Rec, 2, 7, 28)
	taken(t, s, 0, 1, 2)
	for _, h := range []int{1, 2} {
		b, e := s.Read(h, 0, api.PageData)
		if e != api.OK || !bytes.Equal(b, slot.New()) {
			t.Fatalf("page %d is %x, %d", h, b, e)
		}
		chained(t, s, h, h)
	}
	fine(t, s.Rollback(x))
	taken(t, s, 0)
}

// 10.1, 10.3: a heap without records.
func TestEmpty(t *testing.T) {
	s, _ := ready(t, 2048, 2)
	x := begin(t, s)
	h := makes(t, s, x, 1)
	chained(t, s, h, h)
	holds(t, s, h)
	inserts(t, s, x, h, nil, at(h, 0))
	deletes(t, s, x, h, at(h, 0))
	chained(t, s, h, h)
	holds(t, s, h)
	still(t, s, func() { refused(t, heap.Delete(s, x, h, at(h, 0)), api.ErrNone) })
}

// 10.2: records of no bytes, of the most, and of one more.
func TestLengths(t *testing.T) {
	s, _ := ready(t, 2048, 2)
	x := begin(t, s)
	h := makes(t, s, x, 1)
	long := filled('z', 481)
	inserts(t, s, x, h, filled('a', 480), at(h, 0))
	inserts(t, s, x, h, nil, at(h, 1))
	inserts(t, s, x, h, []byte{}, at(h, 2))
	inserts(t, s, x, h, filled('b', 480), at(2, 0))
	want := []item{{at(h, 0), filled('a', 480)}, {at(h, 1), nil}, {at(h, 2), nil}, {at(2, 0), filled('b', 480)}}
	holds(t, s, h, want...)
	for _, head := range []int{h, 0, -1, 382, 9} { // the length is looked at ahead of all else
		for _, y := range []int{x, 99} {
			still(t, s, func() {
				if r, e := heap.Insert(s, y, head, long); r != (api.RID{}) || e != api.ErrArg {
					t.Fatalf("Insert is %v, %d", r, e)
				}
				for _, r := range []api.RID{at(h, 0), at(h, 1), at(h, 3), at(7, 0), at(-1, -1)} {
					if q, e := heap.Update(s, y, head, r, long); q != (api.RID{}) || e != api.ErrArg {
						t.Fatalf("Update is %v, %d", q, e)
					}
				}
			})
		}
	}
	updates(t, s, x, h, at(h, 0), nil, at(h, 0))
	updates(t, s, x, h, at(h, 1), filled('c', 480), at(h, 1))
	want[0].data, want[1].data = nil, filled('c', 480)
	holds(t, s, h, want...)
}

// 10.2: a record that just fits the first page, and one that lacks a byte there and goes on.
func TestJustFits(t *testing.T) {
	s, _ := ready(t, 2048, 2)
	for _, x := range []struct {
		n    int
		fits bool
	}{{0, true}, {190, true}, {191, false}, {480, false}} {
		y := begin(t, s)
		h := makes(t, s, y, 1)
		inserts(t, s, y, h, filled('a', 300), at(h, 0)) // 504 - 6 - 4 - 300 are left: 194, of which a slot needs 4
		want := at(h, 1)
		if !x.fits {
			want = at(2, 0)
		}
		inserts(t, s, y, h, filled('b', x.n), want)
		holds(t, s, h, item{at(h, 0), filled('a', 300)}, item{want, filled('b', x.n)})
		fine(t, s.Rollback(y))
	}
}

// 10.2: a slot that is empty already needs no room of its own.
func TestJustFitsEmptySlot(t *testing.T) {
	s, _ := ready(t, 2048, 2)
	for _, n := range []int{194, 195} {
		x := begin(t, s)
		h := makes(t, s, x, 1)
		inserts(t, s, x, h, []byte("gone"), at(h, 0))
		inserts(t, s, x, h, filled('a', 296), at(h, 1))
		deletes(t, s, x, h, at(h, 0))
		want := at(h, 0)
		if n > 194 {
			want = at(2, 0)
		}
		inserts(t, s, x, h, filled('b', n), want)
		fine(t, s.Rollback(x))
	}
}

// 10.2: a record that fits no page: one is taken, hung behind the last, and gets it.
func TestHang(t *testing.T) {
	s, _ := ready(t, 2048, 2)
	x := begin(t, s)
	fine(t, s.Write(x, 3, 20, filled('?', 480)))
	h := makes(t, s, x, 1)
	inserts(t, s, x, h, filled('a', 480), at(1, 0))
	inserts(t, s, x, h, filled('b', 480), at(2, 0))
	log := told(s, func() { inserts(t, s, x, h, filled('c', 480), at(3, 0)) })
	if len(log) != 3 {
		t.Fatalf("%d records", len(log))
	}
	wrote(t, log[0].Rec, 0, 3, 4)
	wrote(t, log[1].Rec, 2, 5, 6)
	wrote(t, log[2].Rec, 3, 1, 504)
	chained(t, s, h, 1, 2, 3)
	chained(t, s, 2, 2, 3)
	taken(t, s, 0, 1, 2, 3)
	for i, letter := range []byte("abc") {
		_, p, e := slot.Put(slot.New(), filled(letter, 480))
		fine(t, e)
		if i < 2 {
			p = slot.SetNext(p, i+2)
		}
		if b, e := s.Read(i+1, 0, api.PageData); !bytes.Equal(b, p) || e != api.OK {
			t.Errorf("page %d is %x, %d", i+1, b, e)
		}
	}
}

// 10.1: a chain goes by Next, not by the pages' numbers.
func TestChainOfAnyOrder(t *testing.T) {
	s, _ := ready(t, 2048, 3)
	x := begin(t, s)
	for p := 1; p < 4; p++ {
		makes(t, s, x, p)
	}
	h := makes(t, s, x, 4)
	fine(t, space.Give(s, x, 2))
	inserts(t, s, x, h, filled('a', 480), at(4, 0))
	inserts(t, s, x, h, filled('b', 480), at(2, 0))
	inserts(t, s, x, h, filled('c', 480), at(5, 0))
	fine(t, space.Give(s, x, 3))
	inserts(t, s, x, h, filled('d', 480), at(3, 0))
	inserts(t, s, x, h, []byte("e"), at(4, 1))
	chained(t, s, h, 4, 2, 5, 3)
	holds(t, s, h, item{at(4, 0), filled('a', 480)}, item{at(4, 1), []byte("e")}, item{at(2, 0), filled('b', 480)},
		item{at(5, 0), filled('c', 480)}, item{at(3, 0), filled('d', 480)})
	chained(t, s, 1, 1)
}

// 10.2: of the pages that have room the first gets a record, and of its slots the least that is empty.
func TestFirstWithRoom(t *testing.T) {
	s, _ := ready(t, 2048, 2)
	x := begin(t, s)
	h := makes(t, s, x, 1)
	for p := 1; p < 5; p++ {
		for n := range 3 {
			inserts(t, s, x, h, filled(byte('a'+p), 160), at(p, n))
		}
	}
	fine(t, s.Commit(x))
	x = begin(t, s)
	deletes(t, s, x, h, at(4, 0))
	deletes(t, s, x, h, at(2, 1))
	deletes(t, s, x, h, at(3, 2))
	deletes(t, s, x, h, at(3, 0))
	inserts(t, s, x, h, filled('v', 180), at(3, 0)) // 2 has room for 166
	inserts(t, s, x, h, filled('w', 160), at(2, 1))
	inserts(t, s, x, h, filled('x', 160), at(4, 0))
	inserts(t, s, x, h, filled('y', 140), at(3, 2))
	inserts(t, s, x, h, filled('z', 2), at(1, 3))
	inserts(t, s, x, h, filled('z', 3), at(5, 0))
	chained(t, s, h, 1, 2, 3, 4, 5)
}

// 10.2: an Update for which its page has room stays there, in one Write; nothing is written where nothing changes.
func TestUpdateInPlace(t *testing.T) {
	s, _ := ready(t, 2048, 2)
	x := begin(t, s)
	h := makes(t, s, x, 1)
	inserts(t, s, x, h, []byte("first"), at(h, 0))
	inserts(t, s, x, h, []byte("second"), at(h, 1))
	inserts(t, s, x, h, []byte("third"), at(h, 2))
	want := []item{{at(h, 0), []byte("first")}, {at(h, 1), []byte("second")}, {at(h, 2), []byte("third")}}
	for _, data := range []string{"longer than it was", "short", "", "back again", "BACK again", ""} {
		log := told(s, func() { updates(t, s, x, h, at(h, 1), []byte(data), at(h, 1)) })
		if len(log) != 1 {
			t.Fatalf("%d records", len(log))
		}
		want[1].data = []byte(data)
		holds(t, s, h, want...)
		still(t, s, func() { updates(t, s, x, h, at(h, 1), []byte(data), at(h, 1)) })
	}
	updates(t, s, x, h, at(h, 1), filled('m', 476), at(h, 1)) // 504 - 6 - 12 - 10
	want[1].data = filled('m', 476)
	holds(t, s, h, want...)
	log := told(s, func() { updates(t, s, x, h, at(h, 0), []byte("fIRst"), at(h, 0)) })
	if len(log) != 1 {
		t.Fatalf("%d records", len(log))
	}
	wrote(t, log[0].Rec, h, 500, 502)
	chained(t, s, h, h)
}

// 10.2: an Update that lacks a byte in its page moves: to the first page that has room, or to a new one.
func TestUpdateMoves(t *testing.T) {
	s, _ := ready(t, 2048, 2)
	x := begin(t, s)
	h := makes(t, s, x, 1)
	inserts(t, s, x, h, filled('a', 200), at(1, 0))
	inserts(t, s, x, h, filled('b', 200), at(1, 1))
	inserts(t, s, x, h, filled('c', 300), at(2, 0))
	updates(t, s, x, h, at(1, 0), filled('d', 290), at(1, 0)) // 504 - 6 - 8 - 200
	updates(t, s, x, h, at(1, 0), filled('e', 291), at(3, 0)) // no page has room
	chained(t, s, h, 1, 2, 3)
	refused(t, heap.Delete(s, x, h, at(1, 0)), api.ErrNone)
	holds(t, s, h, item{at(1, 1), filled('b', 200)}, item{at(2, 0), filled('c', 300)}, item{at(3, 0), filled('e', 291)})
	updates(t, s, x, h, at(1, 1), filled('f', 490-300), at(1, 1))
	inserts(t, s, x, h, filled('g', 200), at(1, 0))
	inserts(t, s, x, h, filled('h', 90), at(1, 2))
	updates(t, s, x, h, at(1, 1), filled('i', 197), at(3, 1)) // 2 has room for 190, 3 for 199
	updates(t, s, x, h, at(3, 0), filled('j', 298), at(4, 0)) // 1 has room for 196, 2 for 190, 3 for 297
	deletes(t, s, x, h, at(2, 0))
	updates(t, s, x, h, at(4, 0), filled('k', 480), at(4, 0))
	updates(t, s, x, h, at(1, 0), filled('l', 397), at(2, 0)) // from the chain's head to what was emptied
	chained(t, s, h, 1, 2, 3, 4)
	holds(t, s, h, item{at(1, 2), filled('h', 90)}, item{at(2, 0), filled('l', 397)}, item{at(3, 1), filled('i', 197)}, item{at(4, 0), filled('k', 480)})
	updates(t, s, x, h, at(3, 1), filled('n', 480), at(3, 1))
	deletes(t, s, x, h, at(1, 2))
	updates(t, s, x, h, at(2, 0), filled('o', 480), at(2, 0))
	inserts(t, s, x, h, filled('p', 120), at(1, 0))
	chained(t, s, h, 1, 2, 3, 4)
}

// 10.2: an Update that moves begins at the head again.
func TestUpdateMovesForward(t *testing.T) {
	s, _ := ready(t, 2048, 2)
	x := begin(t, s)
	h := makes(t, s, x, 1)
	inserts(t, s, x, h, filled('a', 480), at(1, 0))
	inserts(t, s, x, h, filled('b', 240), at(2, 0))
	inserts(t, s, x, h, filled('c', 240), at(2, 1))
	inserts(t, s, x, h, filled('d', 100), at(3, 0))
	updates(t, s, x, h, at(2, 1), filled('e', 250), at(2, 1)) // 504 - 6 - 8 - 240
	updates(t, s, x, h, at(1, 0), filled('f', 100), at(1, 0))
	updates(t, s, x, h, at(2, 1), filled('g', 251), at(1, 1))
	holds(t, s, h, item{at(1, 0), filled('f', 100)}, item{at(1, 1), filled('g', 251)}, item{at(2, 0), filled('b', 240)}, item{at(3, 0), filled('d', 100)})
}

// 10.2: what is deleted there and inserted may find room in its own page: the slots ahead of it that were empty go with it.
func TestUpdateMovesWithinPage(t *testing.T) {
	s, _ := ready(t, 2048, 2)
	x := begin(t, s)
	h := makes(t, s, x, 1)
	for n := range 11 {
		inserts(t, s, x, h, []byte{byte('a' + n)}, at(h, n))
	}
	for n := range 10 {
		deletes(t, s, x, h, at(h, n))
	}
	updates(t, s, x, h, at(h, 10), filled('x', 454), at(h, 10)) // 504 - 6 - 44
	log := told(s, func() { updates(t, s, x, h, at(h, 10), filled('y', 455), at(h, 0)) })
	if len(log) != 2 {
		t.Fatalf("%d records", len(log))
	}
	chained(t, s, h, h)
	holds(t, s, h, item{at(h, 0), filled('y', 455)})
}

// 10.2: a page whose last record was deleted stays in the chain, and gets records again.
func TestDeleteLastOfPage(t *testing.T) {
	s, _ := ready(t, 2048, 2)
	x := begin(t, s)
	h := makes(t, s, x, 1)
	for p := 1; p < 4; p++ {
		inserts(t, s, x, h, filled(byte('a'+p), 480), at(p, 0))
	}
	for _, p := range []int{2, 3, 1} {
		log := told(s, func() { deletes(t, s, x, h, at(p, 0)) })
		if len(log) != 1 {
			t.Fatalf("%d records", len(log))
		}
		still(t, s, func() { refused(t, heap.Delete(s, x, h, at(p, 0)), api.ErrNone) })
		chained(t, s, h, 1, 2, 3)
	}
	holds(t, s, h)
	taken(t, s, 0, 1, 2, 3)
	for p := 1; p < 4; p++ {
		inserts(t, s, x, h, filled(byte('n'+p), 470), at(p, 0))
	}
	inserts(t, s, x, h, filled('z', 470), at(4, 0))
	chained(t, s, h, 1, 2, 3, 4)
}

// 10.2, 10.3: places where nothing stands.
func TestPlaces(t *testing.T) {
	s, _ := ready(t, 2048, 4)
	x := begin(t, s)
	h := makes(t, s, x, 1)
	for n := range 4 {
		inserts(t, s, x, h, filled(byte('a'+n), 100), at(h, n))
	}
	inserts(t, s, x, h, filled('e', 200), at(2, 0))
	other := makes(t, s, x, 3)
	inserts(t, s, x, other, []byte("other"), at(other, 0))
	fine(t, s.Write(x, 4, 0, []byte("no page")))
	deletes(t, s, x, h, at(h, 1))
	for _, r := range []api.RID{
		at(h, 1), at(h, 4), at(h, 5), at(h, -1), at(h, 124), at(h, 1<<16), at(h, math.MinInt), at(h, math.MaxInt), // slots
		at(2, 1), at(2, -1), at(2, math.MaxInt),
		at(0, 0), at(4, 0), at(-1, 0), at(382, 0), at(1<<32+1, 0), at(math.MinInt, 0), at(math.MaxInt, math.MaxInt), // no page at all
		at(5, 0), at(381, 0), at(381, 1), // a page of noughts
		{},
	} {
		still(t, s, func() {
			refused(t, heap.Delete(s, x, h, r), api.ErrNone)
			for _, data := range [][]byte{nil, []byte("data"), filled('z', 480)} {
				if q, e := heap.Update(s, x, h, r, data); q != (api.RID{}) || e != api.ErrNone {
					t.Fatalf("Update of %v is %v, %d", r, q, e)
				}
			}
			if b, e := heap.Get(s, r); len(b) > 0 || e != api.ErrNone {
				t.Fatalf("Get(%v) is %q, %d", r, b, e)
			}
		})
	}
	for _, r := range []api.RID{at(other, 0), at(other, 1)} { // a page of another heap: only Get asks for no heap
		still(t, s, func() {
			refused(t, heap.Delete(s, x, h, r), api.ErrNone)
			if q, e := heap.Update(s, x, h, r, nil); q != (api.RID{}) || e != api.ErrNone {
				t.Fatalf("Update of %v is %v, %d", r, q, e)
			}
		})
	}
	still(t, s, func() { refused(t, heap.Delete(s, x, 2, at(h, 0)), api.ErrNone) }) // the chain from 2 on has not its head
	if b, e := heap.Get(s, at(other, 0)); string(b) != "other" || e != api.OK {
		t.Errorf("Get is %q, %d", b, e)
	}
}

// everyCall holds that each call that is given a head answers an error, and changes nothing.
func everyCall(t *testing.T, s *store.Store, x, head int, r api.RID, want api.Errno) {
	t.Helper()
	still(t, s, func() {
		t.Helper()
		if q, e := heap.Insert(s, x, head, filled('z', 480)); q != (api.RID{}) || e != want {
			t.Errorf("Insert at %d is %v, %d, want %d", head, q, e, want)
		}
		if q, e := heap.Update(s, x, head, r, nil); q != (api.RID{}) || e != want {
			t.Errorf("Update at %d is %v, %d, want %d", head, q, e, want)
		}
		if e := heap.Delete(s, x, head, r); e != want {
			t.Errorf("Delete at %d is %d, want %d", head, e, want)
		}
		if e := heap.Drop(s, x, head); e != want {
			t.Errorf("Drop of %d is %d, want %d", head, e, want)
		}
		wholeChain(t, s, head, want)
	})
}

// wholeChain holds that Scan and Pages answer an error.
func wholeChain(t *testing.T, s *store.Store, head int, want api.Errno) {
	t.Helper()
	if l, e := heap.Pages(s, head); len(l) > 0 || e != want {
		t.Errorf("Pages of %d is %v, %d, want %d", head, l, e, want)
	}
	if rids, l, e := heap.Scan(s, head); len(rids) > 0 || len(l) > 0 || e != want {
		t.Errorf("Scan of %d is %v, %q, %d, want %d", head, rids, l, e, want)
	}
}

// 10.1: heads that are no page of a heap.
func TestHeads(t *testing.T) {
	s, _ := ready(t, 2048, 4)
	x := begin(t, s)
	h := makes(t, s, x, 1)
	inserts(t, s, x, h, filled('a', 480), at(h, 0))
	fine(t, s.Write(x, 2, 503, []byte{1}))                // bytes between the table and the records
	fine(t, s.Write(x, 3, 0, []byte{0xff, 0xff}))         // too many slots
	fine(t, s.Write(x, 4, 1, []byte{1}))                  // its last slot is empty
	fine(t, s.Write(x, 5, 0, bytes.Repeat([]byte{7}, 9))) // anything
	for _, head := range []int{math.MinInt, -504, -1, 0, 2, 3, 4, 5, 382, 383, 504, 1 << 32, 1<<32 + 1, math.MaxInt} {
		for _, y := range []int{x, 99} {
			everyCall(t, s, y, head, at(h, 0), api.ErrBad)
			everyCall(t, s, y, head, at(head, 0), api.ErrBad)
		}
	}
	still(t, s, func() { refused(t, heap.Drop(s, x, 9), api.ErrArg) }) // a page of noughts is one without records, but nobody has it
	chained(t, s, 9, 9)
	holds(t, s, 9)
}

// 10.1: a chain that leads to what is no page.
func TestBrokenChain(t *testing.T) {
	s, _ := ready(t, 2048, 4)
	x := begin(t, s)
	h := makes(t, s, x, 1)
	for p := 1; p < 4; p++ {
		inserts(t, s, x, h, filled(byte('a'+p), 480), at(p, 0))
	}
	fine(t, s.Write(x, 9, 0, []byte("no page")))
	mark := save(t, s, x)
	for _, p := range []int{1, 2, 3} {
		for _, to := range []int{9, 382, 1 << 20, 1<<32 - 1} {
			next(t, s, x, p, to)
			for _, r := range []api.RID{at(to, 0), at(50, 0), at(-1, 0)} {
				everyCall(t, s, x, h, r, api.ErrBad)
			}
			if b, e := heap.Get(s, at(p, 0)); !bytes.Equal(b, filled(byte('a'+p), 480)) || e != api.OK {
				t.Errorf("Get is %q, %d", b, e)
			}
			fine(t, s.Back(x, mark))
		}
	}
	fine(t, s.Write(x, 2, 0, []byte{9}))
	everyCall(t, s, x, h, at(2, 0), api.ErrBad)
	everyCall(t, s, x, h, at(3, 0), api.ErrBad)
	fine(t, s.Back(x, mark))
	chained(t, s, h, 1, 2, 3)
}

// 10.1: a chain that comes back to a page of its own.
func TestRound(t *testing.T) {
	s, _ := ready(t, 2048, 1)
	x := begin(t, s)
	h := makes(t, s, x, 1)
	for p := 1; p < 4; p++ {
		inserts(t, s, x, h, filled(byte('a'+p), 480), at(p, 0))
	}
	mark := save(t, s, x)
	for _, w := range [][2]int{{1, 1}, {2, 1}, {2, 2}, {3, 1}, {3, 2}, {3, 3}} {
		next(t, s, x, w[0], w[1])
		everyCall(t, s, x, h, at(50, 0), api.ErrBad)
		everyCall(t, s, x, h, at(-1, 0), api.ErrBad)
		fine(t, s.Back(x, mark))
	}
	chained(t, s, h, 1, 2, 3)
}

// Ways: the chain is walked until the page was found: what it is behind that page makes no difference to Insert, Update and Delete.
func TestWalkedUntilFound(t *testing.T) {
	s, _ := ready(t, 2048, 2)
	x := begin(t, s)
	h := makes(t, s, x, 1)
	inserts(t, s, x, h, filled('a', 480), at(1, 0))
	inserts(t, s, x, h, filled('b', 400), at(2, 0))
	inserts(t, s, x, h, filled('c', 480), at(3, 0))
	for _, to := range []int{1, 2, 382} {
		mark := save(t, s, x)
		next(t, s, x, 2, to)
		wholeChain(t, s, h, api.ErrBad)
		inserts(t, s, x, h, []byte("d"), at(1, 1))
		inserts(t, s, x, h, filled('e', 80), at(2, 1))
		updates(t, s, x, h, at(1, 0), filled('f', 9), at(1, 0))
		updates(t, s, x, h, at(2, 0), filled('g', 401), at(2, 0))
		deletes(t, s, x, h, at(1, 1))
		deletes(t, s, x, h, at(2, 0))
		updates(t, s, x, h, at(2, 1), filled('h', 480), at(2, 1))
		fine(t, s.Back(x, mark))
	}
}

// 10.4: an Update that moves and finds the chain broken has deleted the record; whoever calls goes back.
func TestMoveAlongBrokenChain(t *testing.T) {
	s, _ := ready(t, 2048, 2)
	x := begin(t, s)
	h := makes(t, s, x, 1)
	inserts(t, s, x, h, filled('a', 240), at(1, 0))
	inserts(t, s, x, h, filled('b', 240), at(1, 1))
	inserts(t, s, x, h, filled('c', 480), at(2, 0))
	next(t, s, x, 2, 1)
	mark, was := save(t, s, x), whole(t, s)
	log := told(s, func() {
		if r, e := heap.Update(s, x, h, at(1, 0), filled('d', 480)); r != (api.RID{}) || e != api.ErrBad {
			t.Errorf("Update is %v, %d", r, e)
		}
	})
	if len(log) != 1 {
		t.Errorf("%d records", len(log))
	}
	if _, e := heap.Get(s, at(1, 0)); e != api.ErrNone {
		t.Error("Get is ", e)
	}
	fine(t, s.Back(x, mark))
	if !bytes.Equal(whole(t, s), was) {
		t.Error("a page is not what it was")
	}
}

// 10.1, W13: what is dropped is free again, and a heap that is made again is the same.
func TestDrop(t *testing.T) {
	s, _ := ready(t, 2048, 2)
	x := begin(t, s)
	var first []byte
	for range 3 {
		h := makes(t, s, x, 1)
		for p := 1; p < 6; p++ {
			inserts(t, s, x, h, filled(byte('a'+p), 480), at(p, 0))
		}
		chained(t, s, h, 1, 2, 3, 4, 5)
		taken(t, s, 0, 1, 2, 3, 4, 5)
		if b := whole(t, s); first == nil {
			first = b
		} else if !bytes.Equal(b, first) {
			t.Fatal("the pages are not what they were")
		}
		log := told(s, func() { fine(t, heap.Drop(s, x, h)) })
		if len(log) != 1 {
			t.Fatalf("%d records", len(log))
		}
		wrote(t, log[0].Rec, 0, 1, 6)
		taken(t, s, 0)
		still(t, s, func() { refused(t, heap.Drop(s, x, h), api.ErrArg) })
		fine(t, s.Commit(x))
		x = begin(t, s)
	}
	h := makes(t, s, x, 1)
	chained(t, s, h, 1)
	holds(t, s, h)
}

// 10.1: what one drops nobody else takes before it has ended, and it may go back.
func TestDropGoesBack(t *testing.T) {
	s, _ := ready(t, 2048, 2)
	x := begin(t, s)
	h := makes(t, s, x, 1)
	inserts(t, s, x, h, filled('a', 480), at(1, 0))
	inserts(t, s, x, h, filled('b', 480), at(2, 0))
	fine(t, s.Commit(x))
	x, y := begin(t, s), begin(t, s)
	mark := save(t, s, x)
	fine(t, heap.Drop(s, x, h))
	taken(t, s, 0)
	other := makes(t, s, y, 3)
	refused(t, heap.Drop(s, y, h), api.ErrArg)
	inserts(t, s, y, other, []byte("other"), at(3, 0))
	fine(t, s.Back(x, mark))
	chained(t, s, h, 1, 2)
	refused(t, heap.Drop(s, 99, h), api.ErrNone)
	fine(t, heap.Drop(s, x, h))
	makes(t, s, x, 1)
	inserts(t, s, x, 1, []byte("new"), at(1, 0))
	fine(t, s.Rollback(x))
	fine(t, s.Commit(y))
	taken(t, s, 0, 1, 2, 3)
	holds(t, s, h, item{at(1, 0), filled('a', 480)}, item{at(2, 0), filled('b', 480)})
	holds(t, s, other, item{at(3, 0), []byte("other")})
}

// 10.1: a chain longer than a page of the map tells of is dropped by one Write for each page of the map, or not at all.
func TestLongChain(t *testing.T) {
	s, _ := ready(t, 8192, 8)
	x := begin(t, s)
	h := makes(t, s, x, 4)
	fine(t, s.Commit(x))
	for p := 4; p < 1100; p++ {
		if p%8 == 4 {
			x = begin(t, s)
		}
		b, e := s.Read(p, 0, api.PageData)
		fine(t, e)
		if p < 1099 {
			q, e := space.Take(s, x)
			fine(t, e)
			if q != p+1 {
				t.Fatal("took ", q)
			}
			fine(t, s.Write(x, p, 0, slot.SetNext(b, q)[:6]))
		}
		if p%8 == 3 || p == 1099 {
			fine(t, s.Commit(x))
		}
	}
	l, e := heap.Pages(s, h)
	if len(l) != 1096 || l[0] != 4 || l[1095] != 1099 || e != api.OK {
		t.Fatalf("%d pages, %d", len(l), e)
	}
	x, y := begin(t, s), begin(t, s)
	fine(t, space.Give(s, y, 1050))
	next(t, s, y, 1049, 1051) // not one of the chain any more, but its byte is y's
	still(t, s, func() { refused(t, heap.Drop(s, 99, h), api.ErrNone) })
	was := whole(t, s)
	refused(t, heap.Drop(s, x, h), api.ErrBusy)
	if !bytes.Equal(whole(t, s), was) {
		t.Error("some pages were given")
	}
	inserts(t, s, x, 1090, []byte("far"), at(1090, 0))
	updates(t, s, x, h, at(1090, 0), []byte("farther"), at(1090, 0))
	deletes(t, s, x, h, at(1090, 0))
	refused(t, heap.Delete(s, x, h, at(1050, 0)), api.ErrNone)
	fine(t, s.Rollback(y))
	log := told(s, func() { fine(t, heap.Drop(s, x, h)) })
	if len(log) != 3 {
		t.Errorf("%d records", len(log))
	}
	taken(t, s, 0, 1, 2, 3)
	fine(t, s.Commit(x))
}

// 10.2, 10.4: a heap that fills the store until no page is free.
func TestFullStore(t *testing.T) {
	s, _ := ready(t, 256, 3)
	x := begin(t, s)
	h := makes(t, s, x, 1)
	fine(t, s.Commit(x))
	last := s.Pages() - 1
	for p := 1; p <= last; p++ {
		x = begin(t, s)
		inserts(t, s, x, h, filled(byte('a'+p), 400), at(p, 0))
		fine(t, s.Commit(x))
	}
	x = begin(t, s)
	still(t, s, func() {
		if r, e := heap.Insert(s, x, h, filled('z', 91)); r != (api.RID{}) || e != api.ErrFull {
			t.Errorf("Insert is %v, %d", r, e)
		}
		if p, e := heap.Make(s, x); p != 0 || e != api.ErrFull {
			t.Errorf("Make is %d, %d", p, e)
		}
	})
	inserts(t, s, x, h, filled('z', 90), at(1, 1))
	mark, was := save(t, s, x), whole(t, s)
	if r, e := heap.Update(s, x, h, at(1, 1), filled('y', 91)); r != (api.RID{}) || e != api.ErrFull { // in its midst: it is deleted already
		t.Errorf("Update is %v, %d", r, e)
	}
	refused(t, heap.Delete(s, x, h, at(1, 1)), api.ErrNone)
	fine(t, s.Back(x, mark))
	if !bytes.Equal(whole(t, s), was) {
		t.Error("a page is not what it was")
	}
	deletes(t, s, x, h, at(last, 0))
	inserts(t, s, x, h, filled('x', 480), at(last, 0))
	fine(t, s.Commit(x))
	l, e := heap.Pages(s, h)
	if len(l) != last || e != api.OK {
		t.Errorf("%v, %d", l, e)
	}
	x = begin(t, s)
	fine(t, heap.Drop(s, x, h))
	taken(t, s, 0)
	makes(t, s, x, 1)
}

// 10.4, W4: a log that has room for the first so many Writes of a call: what it did by then stays, until one goes back.
func TestFullLog(t *testing.T) {
	calls := []struct {
		name   string
		writes []int // bytes of each Write
		call   func(s *store.Store, x int) api.Errno
	}{
		{"Make", []int{1, 504}, func(s *store.Store, x int) api.Errno {
			p, e := heap.Make(s, x)
			if p != 0 && e != api.OK {
				return -1
			}
			return e
		}},
		{"Insert", []int{1, 1, 504}, func(s *store.Store, x int) api.Errno {
			r, e := heap.Insert(s, x, 1, filled('n', 480))
			if r != (api.RID{}) && e != api.OK {
				return -1
			}
			return e
		}},
		{"Update", []int{498, 1, 1, 504}, func(s *store.Store, x int) api.Errno {
			r, e := heap.Update(s, x, 1, at(1, 0), filled('n', 480))
			if r != (api.RID{}) && e != api.OK {
				return -1
			}
			return e
		}},
		{"Delete", []int{498}, func(s *store.Store, x int) api.Errno {
			return heap.Delete(s, x, 1, at(1, 0))
		}},
		{"Drop", []int{2}, func(s *store.Store, x int) api.Errno {
			return heap.Drop(s, x, 1)
		}},
	}
	for _, c := range calls {
		t.Run(c.name, func(t *testing.T) {
			for n := range len(c.writes) + 1 {
				s := nearlyFull(t, c.writes[:n])
				x := s.Txns()[0].ID
				mark, was := save(t, s, x), whole(t, s)
				log := told(s, func() {
					want := api.ErrFull
					if n == len(c.writes) {
						want = api.OK
					}
					refused(t, c.call(s, x), want)
				})
				if len(log) != n {
					t.Fatalf("%d Writes, want %d", len(log), n)
				}
				for i, l := range log {
					wrote(t, l.Rec, l.Rec.Page, l.Rec.Off, l.Rec.Off+c.writes[i])
				}
				if n > 0 && bytes.Equal(whole(t, s), was) {
					t.Fatal("nothing was done")
				}
				fine(t, s.Back(x, mark))
				if !bytes.Equal(whole(t, s), was) {
					t.Fatal("a page is not what it was")
				}
				fine(t, s.Rollback(x))
				holds(t, s, 1, item{at(1, 0), filled('a', 240)}, item{at(1, 1), filled('b', 240)}, item{at(2, 0), filled('c', 480)})
			}
		})
	}
}

// nearlyFull opens a store with a heap of two full pages, and a third page that somebody had, in whose log there is room for these Writes of an open transaction, and for none behind them.
func nearlyFull(t *testing.T, writes []int) *store.Store {
	t.Helper()
	s, _ := ready(t, 1024, 3)
	x := begin(t, s)
	fine(t, s.Write(x, 3, 0, filled('?', 504)))
	h := makes(t, s, x, 1)
	inserts(t, s, x, h, filled('a', 240), at(1, 0))
	inserts(t, s, x, h, filled('b', 240), at(1, 1))
	inserts(t, s, x, h, filled('c', 480), at(2, 0))
	fine(t, s.Commit(x))
	x = begin(t, s)
	fine(t, s.Checkpoint()) // from here on no checkpoint makes room: x stands at the log's start
	need := 0
	for _, n := range writes {
		need += cost(n)
	}
	for i := 0; s.Room() >= need+cost(1); i++ {
		fine(t, s.Write(x, 50, 0, []byte{byte(i%2 + 1)}))
	}
	if s.Room() < need {
		t.Fatalf("room: %d, need: %d", s.Room(), need)
	}
	return s
}

// 10.5: two heaps side by side know nothing of each other, in one transaction and in two.
func TestTwoHeaps(t *testing.T) {
	s, _ := ready(t, 2048, 2)
	x := begin(t, s)
	g, h := makes(t, s, x, 1), makes(t, s, x, 2)
	inserts(t, s, x, g, filled('a', 480), at(1, 0))
	inserts(t, s, x, h, filled('b', 480), at(2, 0))
	inserts(t, s, x, g, filled('c', 300), at(3, 0))
	inserts(t, s, x, h, filled('d', 300), at(4, 0))
	fine(t, s.Commit(x))
	x, y := begin(t, s), begin(t, s)
	inserts(t, s, x, g, filled('e', 480), at(5, 0))
	inserts(t, s, y, h, filled('f', 480), at(6, 0))
	updates(t, s, x, g, at(3, 0), []byte("less"), at(3, 0))
	updates(t, s, y, h, at(4, 0), []byte("little"), at(4, 0))
	refused(t, heap.Delete(s, x, g, at(4, 0)), api.ErrNone)
	refused(t, heap.Delete(s, y, h, at(3, 0)), api.ErrNone)
	deletes(t, s, y, h, at(2, 0))
	chained(t, s, g, 1, 3, 5)
	chained(t, s, h, 2, 4, 6)
	fine(t, s.Rollback(x))
	fine(t, s.Commit(y))
	chained(t, s, g, 1, 3)
	holds(t, s, g, item{at(1, 0), filled('a', 480)}, item{at(3, 0), filled('c', 300)})
	holds(t, s, h, item{at(4, 0), []byte("little")}, item{at(6, 0), filled('f', 480)})
	x = begin(t, s)
	fine(t, heap.Drop(s, x, h))
	taken(t, s, 0, 1, 3)
	holds(t, s, g, item{at(1, 0), filled('a', 480)}, item{at(3, 0), filled('c', 300)})
}

// 10.2: a page that another open transaction changed is not passed over: the store's error is answered.
func TestBusy(t *testing.T) {
	s, _ := ready(t, 2048, 2)
	x := begin(t, s)
	h := makes(t, s, x, 1)
	inserts(t, s, x, h, []byte("first"), at(1, 0))
	inserts(t, s, x, h, filled('b', 480), at(1, 1))
	inserts(t, s, x, h, filled('c', 480), at(2, 0))
	fine(t, s.Commit(x))
	x, y := begin(t, s), begin(t, s)
	updates(t, s, x, h, at(1, 0), []byte("FIRST"), at(1, 0))
	deletes(t, s, x, h, at(1, 1))
	still(t, s, func() {
		if r, e := heap.Insert(s, y, h, []byte("y")); r != (api.RID{}) || e != api.ErrBusy {
			t.Errorf("Insert is %v, %d", r, e)
		}
		if r, e := heap.Update(s, y, h, at(1, 0), []byte("mine")); r != (api.RID{}) || e != api.ErrBusy {
			t.Errorf("Update is %v, %d", r, e)
		}
		refused(t, heap.Delete(s, y, h, at(1, 0)), api.ErrBusy)
		if b, e := heap.Get(s, at(1, 0)); string(b) != "FIRST" || e != api.OK { // as it is, by whomever
			t.Errorf("Get is %q, %d", b, e)
		}
	})
	updates(t, s, y, h, at(2, 0), filled('d', 480), at(2, 0))
	fine(t, s.Commit(x))
	inserts(t, s, y, h, filled('e', 481-6), at(1, 1))
	fine(t, s.Commit(y))
	holds(t, s, h, item{at(1, 0), []byte("FIRST")}, item{at(1, 1), filled('e', 475)}, item{at(2, 0), filled('d', 480)})
}

// 10.2: the store's error of a transaction that is not open; where nothing changes there is no Write to refuse.
func TestNotOpen(t *testing.T) {
	s, _ := ready(t, 2048, 2)
	x := begin(t, s)
	h := makes(t, s, x, 1)
	inserts(t, s, x, h, filled('a', 240), at(1, 0))
	inserts(t, s, x, h, filled('b', 240), at(1, 1))
	fine(t, s.Commit(x))
	for _, y := range []int{x, 0, -1, 99, math.MaxInt} {
		still(t, s, func() {
			if p, e := heap.Make(s, y); p != 0 || e != api.ErrNone {
				t.Errorf("Make is %d, %d", p, e)
			}
			for _, n := range []int{1, 480} {
				if r, e := heap.Insert(s, y, h, filled('c', n)); r != (api.RID{}) || e != api.ErrNone {
					t.Errorf("Insert is %v, %d", r, e)
				}
				if r, e := heap.Update(s, y, h, at(1, 0), filled('c', n)); r != (api.RID{}) || e != api.ErrNone {
					t.Errorf("Update is %v, %d", r, e)
				}
			}
			refused(t, heap.Delete(s, y, h, at(1, 0)), api.ErrNone)
			refused(t, heap.Drop(s, y, h), api.ErrNone)
			updates(t, s, y, h, at(1, 1), filled('b', 240), at(1, 1))
		})
	}
}

// 10.6: a store whose device failed.
func TestDead(t *testing.T) {
	s, d := ready(t, 2048, 2)
	x := begin(t, s)
	h := makes(t, s, x, 1)
	inserts(t, s, x, h, []byte("a"), at(1, 0))
	d.Fuse(0)
	refused(t, s.Commit(x), api.ErrDead)
	if p, e := heap.Make(s, x); p != 0 || e != api.ErrDead {
		t.Errorf("Make is %d, %d", p, e)
	}
	if r, e := heap.Insert(s, x, h, []byte("b")); r != (api.RID{}) || e != api.ErrDead {
		t.Errorf("Insert is %v, %d", r, e)
	}
	if r, e := heap.Insert(s, x, h, filled('b', 481)); r != (api.RID{}) || e != api.ErrArg {
		t.Errorf("Insert is %v, %d", r, e)
	}
	if r, e := heap.Update(s, x, h, at(1, 0), []byte("b")); r != (api.RID{}) || e != api.ErrDead {
		t.Errorf("Update is %v, %d", r, e)
	}
	if b, e := heap.Get(s, at(1, 0)); len(b) > 0 || e != api.ErrDead {
		t.Errorf("Get is %q, %d", b, e)
	}
	refused(t, heap.Delete(s, x, h, at(1, 0)), api.ErrDead)
	refused(t, heap.Drop(s, x, h), api.ErrDead)
	wholeChain(t, s, h, api.ErrDead)
}

// spoil writes over a list, and over its spare room.
func spoil(b []byte) {
	b = b[:cap(b)]
	for i := range b {
		b[i] ^= 0x55
	}
}

// 10.6, rule 3: what is handed in is neither changed nor kept, nor is its spare room; what is told is new memory.
func TestMemory(t *testing.T) {
	s, _ := ready(t, 2048, 3)
	x := begin(t, s)
	h := makes(t, s, x, 1)
	room := []byte("0123456789")
	in := room[2:5]
	inserts(t, s, x, h, in, at(h, 0))
	inserts(t, s, x, h, in, at(h, 1))
	updates(t, s, x, h, at(h, 1), room[3:7], at(h, 1))
	inserts(t, s, x, h, filled('a', 480), at(2, 0))
	if string(room) != "0123456789" {
		t.Errorf("what was handed in is %q", room)
	}
	spoil(room)
	want := []item{{at(h, 0), []byte("234")}, {at(h, 1), []byte("3456")}, {at(2, 0), filled('a', 480)}}
	holds(t, s, h, want...)
	rids, l, e := heap.Scan(s, h)
	fine(t, e)
	spoil(l[0])
	if string(l[1]) != "3456" || !bytes.Equal(l[2], filled('a', 480)) {
		t.Error("two records of one answer share memory")
	}
	spoil(l[1])
	spoil(l[2])
	for i := range rids[:cap(rids)] {
		rids[:cap(rids)][i] = at(-1, -1)
	}
	for i := range l[:cap(l)] {
		l[:cap(l)][i] = nil
	}
	b, e := heap.Get(s, at(h, 0))
	fine(t, e)
	spoil(b)
	p, e := heap.Pages(s, h)
	fine(t, e)
	for i := range p[:cap(p)] {
		p[:cap(p)][i] = -1
	}
	holds(t, s, h, want...)
	chained(t, s, h, 1, 2)
	fine(t, s.Commit(x))
	holds(t, s, h, want...)
}
