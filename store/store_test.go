package store_test

import (
	"bytes"
	"math"
	"slices"
	"strings"
	"testing"

	"palimpsest/api"
	"palimpsest/dev"
	"palimpsest/rec"
	"palimpsest/redo"
	"palimpsest/store"
)

// stand opens a store of a new device.
func stand(t *testing.T, sectors, frames int) (*store.Store, *dev.Dev) {
	t.Helper()
	d, e := dev.New(sectors)
	if e != api.OK {
		t.Fatal(e)
	}
	return again(t, d, frames), d
}

// again opens a store of a device that has been used.
func again(t *testing.T, d *dev.Dev, frames int) *store.Store {
	t.Helper()
	s, e := store.Open(d, frames)
	if e != api.OK {
		t.Fatal("Open: ", e)
	}
	return s
}

func begin(t *testing.T, s *store.Store) int {
	t.Helper()
	x, e := s.Begin()
	if e != api.OK {
		t.Fatal("Begin: ", e)
	}
	return x
}

func save(t *testing.T, s *store.Store, x int) int {
	t.Helper()
	mark, e := s.Save(x)
	if e != api.OK {
		t.Fatal("Save: ", e)
	}
	return mark
}

// fine takes what a call answered that must go well.
func fine(t *testing.T, e api.Errno) {
	t.Helper()
	if e != api.OK {
		t.Fatal(e)
	}
}

// refused takes what a call answered that must not.
func refused(t *testing.T, e, want api.Errno) {
	t.Helper()
	if e != want {
		t.Fatalf("answered %d, want %d", e, want)
	}
}

func text(t *testing.T, s *store.Store, p, off, n int) string {
	t.Helper()
	b, e := s.Read(p, off, n)
	if e != api.OK {
		t.Fatal("Read: ", e)
	}
	return string(b)
}

func holds(t *testing.T, s *store.Store, p, off int, want string) {
	t.Helper()
	if got := text(t, s, p, off, len(want)); got != want {
		t.Fatalf("page %d from %d on is %q, want %q", p, off, got, want)
	}
}

// kinds tells the log's records in short.
func kinds(s *store.Store) string {
	var l []string
	for _, x := range s.Log() {
		l = append(l, rec.Kind(x.Rec.Kind))
	}
	return strings.Join(l, " ")
}

func logIs(t *testing.T, s *store.Store, want ...redo.Line) {
	t.Helper()
	got, to := tidy(s.Log()), tidy(want)
	if len(got) != len(to) {
		t.Fatalf("the log is\n%v, want\n%v", got, to)
	}
	for i := range to {
		if !slices.Equal(rec.Encode(got[i].Rec), rec.Encode(to[i].Rec)) || got[i].LSN != to[i].LSN {
			t.Fatalf("record %d is\n%v, want\n%v", i, got[i], to[i])
		}
	}
}

// logRoom tells the ring's Room, of what the log tells.
func logRoom(s *store.Store, sectors int) int {
	l := s.Log()
	start := l[0].LSN - 1
	last := l[len(l)-1]
	tail := last.LSN - 1 + rec.Size(last.Rec)
	return (start/sectorBytes+sectors/4-1)*sectorBytes - tail
}

// 7.1
func TestLayout(t *testing.T) {
	for _, x := range [][3]int{
		{math.MinInt, 0, 0}, {-1, 0, 0}, {0, 0, 0}, {100, 0, 0}, {127, 0, 0},
		{128, 32, 22}, {129, 32, 22}, {131, 32, 23}, {132, 33, 23}, {512, 128, 94}, {8192, 2048, 1534},
	} {
		if log, pages := store.Layout(x[0]); log != x[1] || pages != x[2] {
			t.Errorf("Layout(%d) is %d, %d, want %d, %d", x[0], log, pages, x[1], x[2])
		}
	}
	for n := 128; n <= api.MaxSectors; n++ {
		log, pages := store.Layout(n)
		if left := n - 2 - log - 5 - 4*pages; log != n/4 || left < 0 || left > 3 {
			t.Fatal(n, log, pages)
		}
	}
}

// 7.1: where a page lies, and the log.
func TestPlaces(t *testing.T) {
	s, d := stand(t, 128, 2)
	x := begin(t, s)
	fine(t, s.Write(x, 21, 0, []byte("first")))
	fine(t, s.Write(x, 21, 503, []byte("z")))
	lsn := save(t, s, x)
	fine(t, s.Evict(21))
	at := 2 + 32 + 5 + 4*21
	b, _ := d.Read(at)
	want := append([]byte{0, 0, 0, 0, 0, 0, byte(lsn >> 8), byte(lsn)}, "first"...)
	if !bytes.HasPrefix(b, want) {
		t.Errorf("the page begins with %v, want %v", b[:16], want)
	}
	if b, _ := d.Read(at + 3); b[127] != 'z' {
		t.Error("the page's last byte is ", b[127])
	}
	b, _ = d.Read(2)
	first := rec.Encode(api.Rec{Kind: api.RBegin, Txn: 1})
	if !bytes.HasPrefix(b[10:], first) || b[7] != 1 {
		t.Error("the log begins with ", b)
	}
	if s.Pages() != 22 {
		t.Error(s.Pages())
	}
}

// 7.2
func TestOpenRefuses(t *testing.T) {
	small, _ := dev.New(127)
	least, _ := dev.New(128)
	for _, x := range []struct {
		d      *dev.Dev
		frames int
	}{
		{nil, 1}, {small, 1}, {least, 0}, {least, -1}, {least, 65}, {least, math.MaxInt}, {least, math.MinInt},
	} {
		if s, e := store.Open(x.d, x.frames); s != nil || e != api.ErrArg {
			t.Error(x.frames, s, e)
		}
	}
	if least.Calls() > 0 {
		t.Error("a refused Open asks the device")
	}
	for _, frames := range []int{1, 64} {
		again(t, least, frames)
	}
	for _, d := range []*dev.Dev{small, least} {
		d.Fuse(0)
		d.Sync()
	}
	if s, e := store.Open(least, 1); s != nil || e != api.ErrDead {
		t.Error("a dead device: ", s, e)
	}
	if s, e := store.Open(small, 1); s != nil || e != api.ErrArg {
		t.Error("a dead device that is too small: ", s, e)
	}
}

// 7.3, 7.4: the chapter's examples, and each record.
func TestRecords(t *testing.T) {
	s, _ := stand(t, 512, 4)
	x := begin(t, s)
	fine(t, s.Write(x, 0, 0, []byte("ab")))
	fine(t, s.Rollback(x))
	holds(t, s, 0, 0, "\x00\x00")
	logIs(t, s,
		redo.Line{LSN: 1, Rec: api.Rec{Kind: api.RBegin, Txn: 1}},
		redo.Line{LSN: 97, Rec: api.Rec{Kind: api.RUpdate, Txn: 1, Prev: 1, Before: []byte{0, 0}, After: []byte("ab")}},
		redo.Line{LSN: 197, Rec: api.Rec{Kind: api.RAbort, Txn: 1, Prev: 97}},
		redo.Line{LSN: 293, Rec: api.Rec{Kind: api.RClr, Txn: 1, Prev: 197, Next: 1, After: []byte{0, 0}}},
		redo.Line{LSN: 391, Rec: api.Rec{Kind: api.REnd, Txn: 1, Prev: 293}})
	refused(t, s.Write(9, 0, 0, []byte("a")), api.ErrNone)
	fine(t, s.Checkpoint())
	y := begin(t, s)
	fine(t, s.Write(y, 7, 500, []byte("wxyz")))
	fine(t, s.Commit(y))
	logIs(t, s,
		redo.Line{LSN: 487, Rec: api.Rec{Kind: api.RCheck, Dirty: []api.Dirty{{Page: 0, LSN: 97}}}},
		redo.Line{LSN: 599, Rec: api.Rec{Kind: api.RBegin, Txn: 2}},
		redo.Line{LSN: 695, Rec: api.Rec{Kind: api.RUpdate, Txn: 2, Prev: 599, Page: 7, Off: 500, Before: make([]byte, 4), After: []byte("wxyz")}},
		redo.Line{LSN: 799, Rec: api.Rec{Kind: api.RCommit, Txn: 2, Prev: 695}},
		redo.Line{LSN: 895, Rec: api.Rec{Kind: api.REnd, Txn: 2, Prev: 799}})
}

// 7.3, 7.4: all that names a transaction asks first whether it is open.
func TestNone(t *testing.T) {
	s, _ := stand(t, 128, 1)
	done, back := begin(t, s), begin(t, s)
	fine(t, s.Commit(done))
	fine(t, s.Rollback(back))
	for _, x := range []int{done, back, 0, -1, 3, math.MaxInt, math.MinInt} {
		mark, e := s.Save(x)
		if mark != 0 {
			t.Error("Save beside an error: ", mark)
		}
		for i, e := range []api.Errno{e, s.Write(x, 0, 0, nil), s.Write(x, -1, -1, []byte("a")), s.Commit(x), s.Rollback(x), s.Back(x, 1), s.Back(x, -1)} {
			refused(t, e, api.ErrNone)
			if e != api.ErrNone {
				t.Error(x, i)
			}
		}
	}
	if kinds(s) != "begin begin commit end abort end" {
		t.Error(kinds(s))
	}
}

// 7.3: which bytes may be written and read.
func TestBounds(t *testing.T) {
	s, _ := stand(t, 512, 1)
	x := begin(t, s)
	for _, a := range [][3]int{
		{-1, 0, 1}, {94, 0, 1}, {math.MinInt, 0, 0}, {math.MaxInt, 0, 0}, {94, 0, 0},
		{0, -1, 1}, {0, -1, 0}, {0, math.MinInt, 4}, {0, 504, 1}, {0, 505, 0}, {0, 500, 5}, {0, 0, 505}, {0, math.MaxInt, 1}, {0, math.MaxInt, 0},
	} {
		refused(t, s.Write(x, a[0], a[1], make([]byte, a[2])), api.ErrArg)
		b, e := s.Read(a[0], a[1], a[2])
		refused(t, e, api.ErrArg)
		if b != nil {
			t.Error("Read beside an error: ", b)
		}
	}
	for _, n := range []int{-1, math.MinInt, math.MaxInt} {
		_, e := s.Read(0, 0, n)
		refused(t, e, api.ErrArg)
		_, e = s.Read(0, 504, n)
		refused(t, e, api.ErrArg)
	}
	for _, a := range [][3]int{{0, 0, 0}, {93, 504, 0}, {93, 503, 1}, {0, 0, 504}, {93, 204, 300}} {
		b := bytes.Repeat([]byte{7}, a[2])
		mark := save(t, s, x)
		fine(t, s.Write(x, a[0], a[1], b))
		holds(t, s, a[0], a[1], string(b))
		fine(t, s.Back(x, mark))
	}
}

// 7.3: a Write that changes nothing makes no record, one that changes a byte makes one of all its bytes.
func TestSameBytes(t *testing.T) {
	s, d := stand(t, 128, 1)
	x := begin(t, s)
	fine(t, s.Write(x, 3, 4, nil))
	fine(t, s.Write(x, 3, 4, []byte{}))
	fine(t, s.Write(x, 3, 4, make([]byte, 500)))
	if kinds(s) != "begin" {
		t.Fatal(kinds(s))
	}
	n := d.Calls()
	fine(t, s.Write(x, 9, 4, nil))
	if d.Calls() != n {
		t.Error("a Write of nothing asks the device")
	}
	fine(t, s.Write(x, 3, 4, []byte("aba")))
	fine(t, s.Write(x, 3, 4, []byte("aba")))
	fine(t, s.Write(x, 3, 4, []byte("aca")))
	l := s.Log()
	if r := l[len(l)-1].Rec; len(l) != 3 || string(r.Before) != "aba" || string(r.After) != "aca" || r.Off != 4 {
		t.Error(l)
	}
}

// 7.3: bytes of another open transaction's update are busy until that is undone, or the other one ends.
func TestBusy(t *testing.T) {
	s, _ := stand(t, 256, 1)
	x, y := begin(t, s), begin(t, s)
	mark := save(t, s, x)
	fine(t, s.Write(x, 2, 10, []byte("hello")))
	hello := save(t, s, x)
	fine(t, s.Write(x, 2, 11, []byte("u")))
	for _, a := range []struct {
		off, n int
		want   api.Errno
	}{
		{0, 10, api.OK}, {0, 11, api.ErrBusy}, {9, 1, api.OK}, {9, 2, api.ErrBusy}, {10, 1, api.ErrBusy}, {11, 1, api.ErrBusy},
		{14, 1, api.ErrBusy}, {14, 9, api.ErrBusy}, {15, 1, api.OK}, {15, 489, api.OK}, {0, 504, api.ErrBusy}, {12, 0, api.OK}, {10, 0, api.OK},
	} {
		refused(t, s.Write(y, 2, a.off, make([]byte, a.n)), a.want)
		refused(t, s.Write(y, 3, a.off, make([]byte, a.n)), api.OK)
	}
	refused(t, s.Write(y, 2, 10, []byte("hullo")), api.ErrBusy) // what stands there is it already
	fine(t, s.Write(x, 2, 10, []byte("hullo")))
	holds(t, s, 2, 9, "\x00hullo\x00")
	fine(t, s.Back(x, hello))
	refused(t, s.Write(y, 2, 12, []byte("x")), api.ErrBusy) // which stands still
	fine(t, s.Back(x, mark))
	fine(t, s.Write(y, 2, 12, []byte("x")))
	refused(t, s.Write(x, 2, 12, []byte("y")), api.ErrBusy)
	fine(t, s.Commit(y))
	fine(t, s.Write(x, 2, 12, []byte("y")))
	z := begin(t, s)
	refused(t, s.Write(z, 2, 12, []byte("z")), api.ErrBusy)
	fine(t, s.Rollback(x))
	holds(t, s, 2, 10, "\x00\x00x\x00\x00")
	fine(t, s.Write(z, 2, 12, []byte("z")))
}

// 7.4: going back to marks, again and again.
func TestBack(t *testing.T) {
	s, _ := stand(t, 512, 1)
	x, y := begin(t, s), begin(t, s)
	first := save(t, s, x)
	fine(t, s.Write(x, 0, 0, []byte("one")))
	one := save(t, s, x)
	fine(t, s.Write(y, 0, 3, []byte("!")))
	fine(t, s.Write(x, 0, 0, []byte("two")))
	two := save(t, s, x)
	fine(t, s.Write(x, 1, 0, []byte("three")))
	three := save(t, s, x)
	for _, mark := range []int{math.MinInt, -1, 0, three + 1, math.MaxInt, save(t, s, y), one + 1, one - 1} {
		refused(t, s.Back(x, mark), api.ErrArg)
	}
	refused(t, s.Back(y, one), api.ErrArg)
	fine(t, s.Back(x, three))
	if save(t, s, x) != three {
		t.Error("going back to the last record wrote one")
	}
	fine(t, s.Back(x, one))
	holds(t, s, 0, 0, "one!")
	holds(t, s, 1, 0, "\x00\x00\x00\x00\x00")
	l := s.Log()
	if a, b := l[len(l)-2].Rec, l[len(l)-1].Rec; a.Next != two || b.Next != one || a.Prev != three || b.Prev != l[len(l)-2].LSN || a.Page != 1 || string(b.After) != "one" {
		t.Error(a, b)
	}
	last := save(t, s, x)
	for _, mark := range []int{one, two, three, last} { // nothing behind these stands any more
		fine(t, s.Back(x, mark))
	}
	if save(t, s, x) != last {
		t.Error("what is undone was undone again")
	}
	fine(t, s.Write(x, 0, 1, []byte("wn")))
	fine(t, s.Back(x, three)) // one of the undone: what came behind it goes
	holds(t, s, 0, 0, "one!")
	fine(t, s.Write(x, 0, 0, []byte("six")))
	fine(t, s.Back(x, first))
	holds(t, s, 0, 0, "\x00\x00\x00!")
	fine(t, s.Write(x, 0, 0, []byte("new")))
	fine(t, s.Rollback(x))
	fine(t, s.Commit(y))
	holds(t, s, 0, 0, "\x00\x00\x00!")
}

// 7.4: bytes of a page that look like a record of the transaction are none, though they lie in the log.
func TestBackToLooks(t *testing.T) {
	s, _ := stand(t, 256, 1)
	x := begin(t, s)
	fake := rec.Encode(api.Rec{Kind: api.RUpdate, Txn: x, Prev: 1})
	fine(t, s.Write(x, 0, 0, fake))
	update := save(t, s, x)
	fine(t, s.Write(x, 1, 0, []byte("a")))
	at := update + 8*8 + len(fake) + 8 // behind its numbers, Before, and After's count
	refused(t, s.Back(x, at), api.ErrArg)
	if l := s.Log(); string(l[1].Rec.After) != string(fake) || len(l) != 3 {
		t.Error(l)
	}
	fine(t, s.Rollback(x))
	holds(t, s, 0, 0, string(make([]byte, 200)))
}

// 7.4: transactions that wrote nothing end, too, and a commit of nothing counts.
func TestEmptyTransactions(t *testing.T) {
	s, d := stand(t, 128, 1)
	x, y := begin(t, s), begin(t, s)
	fine(t, s.Commit(x))
	fine(t, s.Rollback(y))
	if kinds(s) != "begin begin commit end abort end" || s.Commits() != 1 || len(s.Txns()) > 0 {
		t.Error(kinds(s), s.Commits())
	}
	d.Crash(nil)
	s = again(t, d, 1)
	if r, u := s.Restart(); s.Commits() != 1 || r != 0 || u != 0 {
		t.Error(s.Commits(), r, u)
	}
	if begin(t, s) != 3 {
		t.Error("a number comes again")
	}
}

// 7.4: a commit lasts when it was answered; a rollback need not.
func TestCommitLasts(t *testing.T) {
	s, d := stand(t, 256, 8)
	x, y, z := begin(t, s), begin(t, s), begin(t, s)
	fine(t, s.Write(x, 0, 0, []byte("x")))
	fine(t, s.Write(y, 0, 1, []byte("y")))
	fine(t, s.Write(z, 0, 2, []byte("z")))
	fine(t, s.Evict(0))
	fine(t, s.Rollback(z))
	if d.Pending() > 0 {
		t.Error("a rollback writes")
	}
	fine(t, s.Commit(x))
	if s.Commits() != 1 || d.Pending() > 0 {
		t.Error(s.Commits(), d.Pending())
	}
	d.Crash(nil)
	s = again(t, d, 8)
	holds(t, s, 0, 0, "x\x00\x00")
	if r, u := s.Restart(); r != 1 || u != 1 { // the clr of z, which the page lacked, and then that of y
		t.Error(r, u)
	}
	if s.Commits() != 1 || len(s.Txns()) != 0 || kinds(s) != "" {
		t.Error(s.Commits(), s.Txns(), kinds(s))
	}
}

// 7.5: what a checkpoint tells, and where the log starts behind it.
func TestCheckpoint(t *testing.T) {
	s, d := stand(t, 512, 8)
	fine(t, s.Checkpoint())
	logIs(t, s, redo.Line{LSN: 1, Rec: api.Rec{Kind: api.RCheck}})
	x := begin(t, s)
	fine(t, s.Write(x, 5, 0, []byte("x")))
	fine(t, s.Commit(x))
	y := begin(t, s)
	z := begin(t, s)
	fine(t, s.Write(z, 5, 1, []byte("z")))
	fine(t, s.Write(y, 2, 0, []byte("y")))
	fine(t, s.Commit(z))
	txns, log := s.Txns(), s.Log()
	dirty := []api.Dirty{{Page: 2, LSN: log[8].LSN}, {Page: 5, LSN: log[2].LSN}}
	fine(t, s.Checkpoint())
	check := api.Rec{Kind: api.RCheck, Txns: txns, Dirty: dirty, Count: 2}
	at := log[len(log)-1].LSN + 96
	logIs(t, s, append(slices.Clone(log[5:]), redo.Line{LSN: at, Rec: check})...) // from the begin of y on
	if m := newest(d); m != [4]int{3, log[5].LSN - 1, 1, 4} {                     // the commit of z is not ahead of that place
		t.Error(m)
	}
	if d.Pending() > 0 {
		t.Error("a checkpoint left writes that wait")
	}
	fine(t, s.Rollback(y))
	fine(t, s.Checkpoint())
	if kinds(s) != "check" || newest(d)[2] != 2 {
		t.Error(kinds(s), newest(d))
	}
	d.Crash(nil)
	s = again(t, d, 8)
	if r, u := s.Restart(); r != 0 || u != 0 || s.Commits() != 2 || begin(t, s) != 4 {
		t.Error(r, u, s.Commits())
	}
	holds(t, s, 5, 0, "xz")
	holds(t, s, 2, 0, "\x00")
}

// 7.5: pages that were driven out are written behind the log, and read again.
func TestEvict(t *testing.T) {
	s, d := stand(t, 128, 2)
	for _, p := range []int{-1, 22, math.MaxInt, math.MinInt} {
		refused(t, s.Evict(p), api.ErrArg)
	}
	x := begin(t, s)
	fine(t, s.Write(x, 21, 0, []byte("x")))
	n := d.Calls()
	fine(t, s.Evict(20))
	if d.Calls() != n {
		t.Error("a page that is not in memory is driven out")
	}
	fine(t, s.Evict(21))
	if d.Calls() == n {
		t.Error("a changed page is not written")
	}
	n = d.Calls()
	holds(t, s, 21, 0, "x")
	if d.Calls() != n+4 {
		t.Error("a page that was driven out is not read")
	}
	d.Crash(nil)
	s = again(t, d, 2)
	if r, u := s.Restart(); r != 0 || u != 1 {
		t.Error(r, u)
	}
	holds(t, s, 21, 0, "\x00")
}

// 7.6: a new update or transaction gets room just as far as Room tells; what is refused leaves nothing.
func TestRoomEdges(t *testing.T) {
	for n := range 400 {
		s, _ := stand(t, 160, 4)
		x := begin(t, s) // it stands at the log's start: no checkpoint helps
		if want := 39*sectorBytes - 96 - 192 - 2048; s.Room() != want {
			t.Fatal("Room is ", s.Room(), ", want ", want)
		}
		fine(t, s.Write(x, 0, 0, bytes.Repeat([]byte{1}, n)))
		left := s.Room()
		if n > 0 && left != 39*sectorBytes-96-192-2048-192-3*n {
			t.Fatal(n, left)
		}
		most := (left - 192) / 3
		before := s.Log()
		if b := bytes.Repeat([]byte{2}, most+1); len(b) <= 504 && s.Write(x, 1, 0, b) != api.ErrFull {
			t.Fatal("more than Room has: ", n, left)
		}
		logIs(t, s, before...)
		if s.Room() != left || save(t, s, x) != before[len(before)-1].LSN {
			t.Fatal("what is refused took room: ", s.Room(), left)
		}
		holds(t, s, 1, 0, "\x00")
		if most <= 504 {
			fine(t, s.Write(x, 1, 0, bytes.Repeat([]byte{2}, most)))
		}
		if most > 504 {
			continue
		}
		if y, e := s.Begin(); y != 0 || e != api.ErrFull {
			t.Fatal("Begin in a full log: ", y, e)
		}
		fine(t, s.Rollback(x))
		if begin(t, s) != 2 {
			t.Fatal("a refused Begin took a number")
		}
	}
}

// 7.6: Begin gets room just if its record and its ending have some.
func TestRoomOfBegin(t *testing.T) {
	seen := 0
	for n := range 200 {
		s, _ := stand(t, 132, 4)
		x := begin(t, s)
		for i := 0; s.Room() >= 288+192+3*(n+1); i++ {
			fine(t, s.Write(x, i%5, 0, bytes.Repeat([]byte{byte(i + 1)}, n+1)))
		}
		for s.Room() >= 288 {
			left := s.Room()
			begin(t, s)
			if s.Room() != left-288 {
				t.Fatal(s.Room(), left)
			}
		}
		if s.Room() == 0 {
			seen++
		}
		if y, e := s.Begin(); y != 0 || e != api.ErrFull || strings.Contains(kinds(s), "check") {
			t.Fatal(y, e, kinds(s))
		}
	}
	if seen == 0 {
		t.Error("no log was full to its last byte")
	}
}

// 7.6: a full log makes room by a checkpoint, unless an open transaction stands at its start.
func TestRoomByCheckpoint(t *testing.T) {
	s, d := stand(t, 128, 4)
	for i := range 300 {
		x := begin(t, s)
		fine(t, s.Write(x, i%5, i, []byte{1}))
		if i%2 > 0 {
			fine(t, s.Rollback(x))
		} else {
			fine(t, s.Commit(x))
		}
	}
	if newest(d)[0] < 50 || s.Commits() != 150 {
		t.Error(newest(d), s.Commits())
	}
	x := begin(t, s)
	fine(t, s.Checkpoint())
	if kinds(s) != "begin check" {
		t.Fatal(kinds(s))
	}
	m := newest(d)
	refused(t, s.Write(x, 0, 0, bytes.Repeat([]byte{9}, 504)), api.ErrFull)
	if newest(d) != m {
		t.Error("a checkpoint that moves nothing was made")
	}
	fine(t, s.Rollback(x))
	y := begin(t, s)
	fine(t, s.Write(y, 1, 0, []byte("abc")))
	refused(t, s.Write(y, 0, 0, bytes.Repeat([]byte{9}, 504)), api.ErrFull)
	if newest(d)[0] != m[0]+1 || kinds(s) != "begin update check" {
		t.Error("one checkpoint is made ahead of the refusal: ", newest(d), kinds(s))
	}
}

// 7.6: a checkpoint leaves 1,120 bytes to others while one is open, and always fits when none is.
func TestRoomOfCheckpoint(t *testing.T) {
	s, _ := stand(t, 128, 64)
	x, y := begin(t, s), begin(t, s)
	fine(t, s.Write(x, 0, 0, bytes.Repeat([]byte{1}, 150)))
	made := 0
	for p := 0; ; p = (p + 1) % 20 {
		s.Write(y, p, 200, []byte{byte(p + 1)})
		left := logRoom(s, 128)
		reserved := 2*192 + 96 + 150
		for _, l := range s.Log() {
			if l.Rec.Txn == y && l.Rec.Kind == api.RUpdate {
				reserved += 97
			}
		}
		dirty := 0
		if made == 0 {
			dirty = 1
		}
		if n := strings.Count(kinds(s), "update"); n > 1+made {
			dirty++
		}
		need := 96 + 2*24 + 16*dirty + reserved + 1120
		e := s.Checkpoint()
		if (e == api.OK) != (left >= need) || e != api.OK && e != api.ErrFull {
			t.Fatal(e, left, need, dirty, kinds(s))
		}
		if e == api.ErrFull {
			break
		}
		made++
	}
	if made < 2 {
		t.Fatal(made, " checkpoints")
	}
	fine(t, s.Rollback(x)) // y stands not at the start any more, but a checkpoint has no room
	before := kinds(s)
	refused(t, s.Write(y, 9, 9, bytes.Repeat([]byte{1}, 400)), api.ErrFull)
	if kinds(s) != before {
		t.Error(kinds(s))
	}
	fine(t, s.Commit(y))
	fine(t, s.Checkpoint())
	if kinds(s) != "check" {
		t.Error(kinds(s))
	}
	x = begin(t, s)
	fine(t, s.Write(x, 0, 0, []byte("x")))
}

// 7.6: to the last byte: the first checkpoint has a dirty page (136 bytes), those behind it none (120), and 1,120 bytes stay.
func TestRoomOfCheckpointEdges(t *testing.T) {
	for _, a := range [][4]int{{132, 400, 48, 8}, {128, 361, 47, 7}} {
		s, _ := stand(t, a[0], 2)
		x := begin(t, s)
		fine(t, s.Write(x, 0, 0, bytes.Repeat([]byte{1}, a[1])))
		if s.Room() != a[2] {
			t.Fatal(s.Room(), a)
		}
		n := 0
		for s.Checkpoint() == api.OK {
			n++
		}
		if n != a[3] {
			t.Error(n, " checkpoints, want ", a[3])
		}
		fine(t, s.Rollback(x))
		fine(t, s.Checkpoint())
	}
}

// 7.9: in a log that is full Commit, Rollback and Back are still answered, of many open at once.
func TestFullLog(t *testing.T) {
	for way := range 3 {
		s, d := stand(t, 160, 2)
		var open []int
		for {
			x, e := s.Begin()
			if e != api.OK {
				refused(t, e, api.ErrFull)
				break
			}
			open = append(open, x)
			fine(t, s.Write(x, x%9, x, []byte{byte(x)}))
			s.Evict(x % 3)
		}
		mark := save(t, s, open[0])
		for refusals := 0; refusals < 3; { // what goes back eats the log, until nothing is left to write
			e := s.Write(open[0], 1, 300, []byte("abcdefgh"))
			if e == api.ErrFull {
				refusals++
			}
			fine(t, s.Back(open[0], mark))
			holds(t, s, 1, 300, "\x00")
			s.Checkpoint()
		}
		if s.Room() > 192+3*8 || len(open) < 4 {
			t.Fatal(s.Room(), len(open))
		}
		for i, x := range open {
			switch (i + way) % 3 {
			case 0:
				fine(t, s.Commit(x))
				holds(t, s, x%9, x, string(rune(x)))
			case 1:
				fine(t, s.Rollback(x))
				holds(t, s, x%9, x, "\x00")
			case 2:
				log := s.Log()
				at := slices.IndexFunc(log, func(l redo.Line) bool { return l.Rec.Txn == x })
				fine(t, s.Back(x, log[at].LSN))
				holds(t, s, x%9, x, "\x00")
				fine(t, s.Commit(x))
			}
		}
		fine(t, s.Checkpoint())
		commits := s.Commits()
		d.Crash(nil)
		s = again(t, d, 1)
		if s.Commits() != commits || kinds(s) != "" {
			t.Error(s.Commits(), commits, kinds(s))
		}
	}
}

// 7.7: the open ones by rising number, with their last records.
func TestTxns(t *testing.T) {
	s, _ := stand(t, 512, 2)
	var want []api.Txn
	for i := range 6 {
		x := begin(t, s)
		if x != i+1 {
			t.Fatal(x)
		}
		fine(t, s.Write(x, 0, i, []byte{1}))
		want = append(want, api.Txn{ID: x, Last: save(t, s, x), State: api.TRun})
	}
	fine(t, s.Commit(3))
	fine(t, s.Rollback(1))
	fine(t, s.Write(2, 1, 0, []byte("b")))
	want[1].Last = save(t, s, 2)
	want = append(want[1:2], want[3:]...)
	if got := s.Txns(); !slices.Equal(got, want) {
		t.Error(got, want)
	}
}

// 7.7: at each call the device may fail; then the store is dead, whatever it is asked.
func TestDead(t *testing.T) {
	for i, call := range []func(s *store.Store) api.Errno{
		func(s *store.Store) api.Errno { return s.Commit(1) },
		func(s *store.Store) api.Errno { return s.Checkpoint() },
		func(s *store.Store) api.Errno { return s.Evict(0) },
		func(s *store.Store) api.Errno { _, e := s.Read(1, 0, 1); return e },
		func(s *store.Store) api.Errno { return s.Write(1, 1, 0, []byte("b")) },
		func(s *store.Store) api.Errno { return s.Write(2, 1, 0, make([]byte, 1)) },
		func(s *store.Store) api.Errno { return s.Rollback(2) },
		func(s *store.Store) api.Errno { return s.Back(2, 97) },
		func(s *store.Store) api.Errno { _, e := s.Begin(); return e },
	} {
		s, d := stand(t, 128, 1)
		w := &witness{t: t, d: d, s: s, made: make([]state, 1), open: []int{1, 2, 3}}
		begin(t, s)
		begin(t, s)
		fine(t, s.Write(2, 1, 5, []byte("c")))
		if i == 8 { // a log that is full, with nobody at its start
			fine(t, s.Commit(1))
			w.made = append(w.made, state{})
			for s.Room() >= 288 {
				fine(t, s.Write(2, 1, 5, []byte("c")))
				fine(t, s.Write(2, 1, 5, []byte("d")))
			}
		} else {
			fine(t, s.Write(1, 0, 0, []byte("a")))
		}
		d.Fuse(0)
		refused(t, call(s), api.ErrDead)
		w.dead()
		if s.Pages() != 22 {
			t.Error(s.Pages())
		}
		d.Crash(nil)
		w.dead() // also when the device is well again
		s = again(t, d, 1)
		holds(t, s, 0, 0, "\x00")
		holds(t, s, 1, 5, "\x00")
	}
}
