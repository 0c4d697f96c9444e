package space_test

import (
	"bytes"
	"math"
	"slices"
	"testing"

	"palimpsest/api"
	"palimpsest/dev"
	"palimpsest/rec"
	"palimpsest/space"
	"palimpsest/store"
)

const each = 504

// stand opens a store of a new device.
func stand(t *testing.T, sectors, frames int) (*store.Store, *dev.Dev) {
	t.Helper()
	d, e := dev.New(sectors)
	if e != api.OK {
		t.Fatal(e)
	}
	return again(t, d, frames), d
}

// again opens a store of a device that has been used.
func again(t *testing.T, d *dev.Dev, frames int) *store.Store {
	t.Helper()
	s, e := store.Open(d, frames)
	if e != api.OK {
		t.Fatal("Open: ", e)
	}
	return s
}

// ready opens a store of a new device whose map is formatted.
func ready(t *testing.T, sectors, frames int) (*store.Store, *dev.Dev) {
	t.Helper()
	s, d := stand(t, sectors, frames)
	x := begin(t, s)
	fine(t, space.Format(s, x))
	fine(t, s.Commit(x))
	return s, d
}

// crowded opens a store of a new device whose pages are all taken.
func crowded(t *testing.T, sectors, frames int) *store.Store {
	t.Helper()
	s, _ := stand(t, sectors, frames)
	for m := range space.Maps(s.Pages()) {
		lay(t, s, m, 0, bytes.Repeat([]byte{1}, min(each, s.Pages()-m*each)))
	}
	return s
}

// lay writes to the map by the store alone, 200 bytes at a time.
func lay(t *testing.T, s *store.Store, m, off int, b []byte) {
	t.Helper()
	for i := 0; i < len(b); i += 200 {
		x := begin(t, s)
		fine(t, s.Write(x, m, off+i, b[i:min(len(b), i+200)]))
		fine(t, s.Commit(x))
	}
}

func begin(t *testing.T, s *store.Store) int {
	t.Helper()
	x, e := s.Begin()
	if e != api.OK {
		t.Fatal("Begin: ", e)
	}
	return x
}

// fine takes what a call answered that must go well.
func fine(t *testing.T, e api.Errno) {
	t.Helper()
	if e != api.OK {
		t.Fatal(e)
	}
}

// refused takes what a call answered that must not.
func refused(t *testing.T, e, want api.Errno) {
	t.Helper()
	if e != want {
		t.Fatalf("answered %d, want %d", e, want)
	}
}

func take(t *testing.T, s *store.Store, x, want int) {
	t.Helper()
	if p, e := space.Take(s, x); p != want || e != api.OK {
		t.Fatalf("Take is %d, %d, want %d", p, e, want)
	}
}

func takeRefused(t *testing.T, s *store.Store, x int, want api.Errno) {
	t.Helper()
	if p, e := space.Take(s, x); p != 0 || e != want {
		t.Fatalf("Take is %d, %d, want 0, %d", p, e, want)
	}
}

func counts(t *testing.T, s *store.Store, want int) {
	t.Helper()
	if n, e := space.Count(s); n != want || e != api.OK {
		t.Fatalf("Count is %d, %d, want %d", n, e, want)
	}
}

// are holds that of all pages just these are taken.
func are(t *testing.T, s *store.Store, want ...int) {
	t.Helper()
	counts(t, s, len(want))
	for p := range s.Pages() {
		if is, e := space.Taken(s, p); is != slices.Contains(want, p) || e != api.OK {
			t.Fatalf("Taken(%d) is %v, %d; want %v", p, is, e, want)
		}
	}
}

// maps tells the bytes of all pages, as they lie in the store.
func maps(t *testing.T, s *store.Store) []byte {
	t.Helper()
	var l []byte
	for m := range space.Maps(s.Pages()) {
		b, e := s.Read(m, 0, each)
		if e != api.OK {
			t.Fatal("Read: ", e)
		}
		l = append(l, b...)
	}
	return l
}

// told tells the log's last record.
func told(s *store.Store) api.Rec {
	l := s.Log()
	return l[len(l)-1].Rec
}

// wrote holds that the log's last record is an update of x that made these bytes so.
func wrote(t *testing.T, s *store.Store, x, m, off int, before, after string) {
	t.Helper()
	r := told(s)
	if r.Kind != api.RUpdate || r.Txn != x || r.Page != m || r.Off != off || string(r.Before) != before || string(r.After) != after {
		t.Fatalf("the log's last record is %v", r)
	}
}

// still holds that a call neither told the log anything nor changed the map.
func still(t *testing.T, s *store.Store, call func()) {
	t.Helper()
	log, was := len(s.Log()), maps(t, s)
	call()
	if n := len(s.Log()); n != log {
		t.Fatalf("%d records, there were %d", n, log)
	}
	if !bytes.Equal(maps(t, s), was) {
		t.Fatal("the map is not what it was")
	}
}

// 8.1
func TestMaps(t *testing.T) {
	for _, x := range [][2]int{
		{math.MinInt, 0}, {math.MinInt + 1, 0}, {-505, 0}, {-504, 0}, {-1, 0}, {0, 0}, {1, 1}, {10, 1}, {94, 1}, {503, 1}, {504, 1}, {505, 2},
		{1008, 2}, {1009, 3}, {1534, 4}, {504 * 1000, 1000}, {504*1000 + 1, 1001},
		{math.MaxInt, math.MaxInt/504 + 1}, {math.MaxInt / 504 * 504, math.MaxInt / 504},
	} {
		if n := space.Maps(x[0]); n != x[1] {
			t.Errorf("Maps(%d) is %d, want %d", x[0], n, x[1])
		}
	}
	if math.MaxInt%504 == 0 {
		t.Error("the greatest number is rounded")
	}
}

// 8.1: what Format writes, for maps of one to four pages, and that it does so once.
func TestFormat(t *testing.T) {
	for _, x := range [][3]int{{128, 1, 22}, {2701, 1, 504}, {2702, 2, 505}, {5389, 2, 1008}, {5390, 3, 1009}, {8192, 4, 1534}} {
		s, _ := stand(t, x[0], 2)
		if s.Pages() != x[2] {
			t.Fatalf("%d pages, want %d", s.Pages(), x[2])
		}
		are(t, s)
		a := begin(t, s)
		fine(t, space.Format(s, a))
		if len(s.Log()) != 2 {
			t.Fatalf("%d records", len(s.Log()))
		}
		wrote(t, s, a, 0, 0, "\x00\x00\x00\x00"[:x[1]], "\x01\x01\x01\x01"[:x[1]])
		are(t, s, []int{0, 1, 2, 3}[:x[1]]...)
		still(t, s, func() { fine(t, space.Format(s, a)) })
		fine(t, s.Rollback(a))
		are(t, s)
		a = begin(t, s)
		fine(t, space.Format(s, a))
		fine(t, s.Commit(a))
		b := begin(t, s)
		still(t, s, func() { fine(t, space.Format(s, b)) })
		still(t, s, func() { fine(t, space.Format(s, 99)) }) // there is nothing to write
		take(t, s, b, x[1])
	}
}

// 8.1: Format writes from the first byte that isn't 1 to the last, and those between become ones, too.
func TestFormatSome(t *testing.T) {
	for _, x := range []struct {
		is  string
		off int
		n   int
	}{
		{"\x01\x00\x01\x01", 1, 1}, {"\x00\x01\x01\x00", 0, 4}, {"\x01\x01\x01\x00", 3, 1}, {"\x00\x01\x01\x01", 0, 1},
		{"\x01\x02\x01\xff", 1, 3}, {"\x00\x01\x00\x01", 0, 3}, {"\x02\x02\x02\x02", 0, 4}, {"\x01\x00\x00\x01", 1, 2},
	} {
		s, _ := stand(t, 8192, 2)
		lay(t, s, 0, 0, []byte(x.is+"\x00\x03"))
		a := begin(t, s)
		n := len(s.Log())
		fine(t, space.Format(s, a))
		wrote(t, s, a, 0, x.off, x.is[x.off:x.off+x.n], "\x01\x01\x01\x01"[:x.n])
		if len(s.Log()) != n+1 {
			t.Fatalf("%d records more", len(s.Log())-n)
		}
		are(t, s, 0, 1, 2, 3, 5)
	}
}

// 8.1: Format tells what its Write answers.
func TestFormatRefused(t *testing.T) {
	s, d := stand(t, 8192, 2)
	for _, x := range []int{0, -1, 1, math.MaxInt} {
		still(t, s, func() { refused(t, space.Format(s, x), api.ErrNone) })
	}
	a, b := begin(t, s), begin(t, s)
	fine(t, s.Write(a, 0, 3, []byte{1}))
	fine(t, s.Write(a, 0, 2, []byte{9}))
	still(t, s, func() { refused(t, space.Format(s, b), api.ErrBusy) })
	are(t, s, 2, 3)
	fine(t, space.Format(s, a))
	fine(t, s.Rollback(a))
	fine(t, space.Format(s, b))
	d.Fuse(0)
	refused(t, s.Commit(b), api.ErrDead)
	refused(t, space.Format(s, b), api.ErrDead)
}

// 8.2: the least page that is free, up to the last one, and then none.
func TestTake(t *testing.T) {
	for _, sectors := range []int{128, 512} {
		s, _ := ready(t, sectors, 2)
		for p := 1; p < s.Pages(); p++ {
			a := begin(t, s)
			take(t, s, a, p)
			wrote(t, s, a, 0, p, "\x00", "\x01")
			counts(t, s, p+1)
			fine(t, s.Commit(a))
		}
		a := begin(t, s)
		still(t, s, func() { takeRefused(t, s, a, api.ErrFull) })
		still(t, s, func() { takeRefused(t, s, 99, api.ErrFull) })
		counts(t, s, s.Pages())
		fine(t, space.Give(s, a, 7))
		wrote(t, s, a, 0, 7, "\x01", "\x00")
		take(t, s, a, 7)
		still(t, s, func() { takeRefused(t, s, a, api.ErrFull) })
	}
}

// 8.2: pages whose bytes lie in the map's later pages; what lies behind the last page's byte is no page's.
func TestTakeFar(t *testing.T) {
	s := crowded(t, 8192, 2)
	last := s.Pages() - 1
	if last != 1533 {
		t.Fatal(last)
	}
	a := begin(t, s)
	takeRefused(t, s, a, api.ErrFull)
	counts(t, s, 1534)
	far := []int{4, 503, 504, 505, 1007, 1008, 1511, 1512, last}
	for _, p := range far {
		fine(t, space.Give(s, a, p))
		wrote(t, s, a, p/each, p%each, "\x01", "\x00")
		if is, e := space.Taken(s, p); is || e != api.OK {
			t.Fatal(p, is, e)
		}
	}
	counts(t, s, 1534-len(far))
	fine(t, s.Commit(a))
	a = begin(t, s)
	for _, p := range far {
		take(t, s, a, p)
		wrote(t, s, a, p/each, p%each, "\x00", "\x01")
	}
	takeRefused(t, s, a, api.ErrFull)
	fine(t, s.Write(a, 3, 22, []byte{1}))
	counts(t, s, 1534)
	fine(t, s.Rollback(a))
	counts(t, s, 1534-len(far))
}

// 8.2: an error of Take's Write that is not ErrBusy.
func TestTakeRefused(t *testing.T) {
	s, _ := ready(t, 512, 2)
	a := begin(t, s)
	for _, x := range []int{0, -1, a + 1, a - 1, math.MaxInt} {
		still(t, s, func() { takeRefused(t, s, x, api.ErrNone) })
	}
	take(t, s, a, 1)
	still(t, s, func() { takeRefused(t, s, a-1, api.ErrNone) })
}

// 8.1: a byte that is neither 0 nor 1 is not 0.
func TestOtherBytes(t *testing.T) {
	s, _ := ready(t, 512, 2)
	lay(t, s, 0, 1, []byte{2, 0, 255, 128})
	are(t, s, 0, 1, 3, 4)
	a := begin(t, s)
	take(t, s, a, 2)
	take(t, s, a, 5)
	fine(t, space.Give(s, a, 3))
	wrote(t, s, a, 0, 3, "\xff", "\x00")
	fine(t, space.GiveAll(s, a, []int{4, 1}))
	wrote(t, s, a, 0, 1, "\x02\x01\x00\x80", "\x00\x01\x00\x00")
	are(t, s, 0, 2, 5)
}

// 8.2: in a store that nobody formatted the map's pages are free as all others.
func TestTakeUnformatted(t *testing.T) {
	s, _ := stand(t, 512, 2)
	a := begin(t, s)
	take(t, s, a, 0)
	take(t, s, a, 1)
	refused(t, space.Give(s, a, 0), api.ErrArg)
	fine(t, space.Give(s, a, 1))
	are(t, s, 0)
}

// 8.2: what is no page, the map's own, or free, is not given.
func TestGive(t *testing.T) {
	s := crowded(t, 8192, 2)
	a := begin(t, s)
	fine(t, space.Give(s, a, 9))
	for _, p := range []int{math.MinInt, -504, -1, 0, 1, 2, 3, 9, 1534, 1535, 2016, 1 << 32, math.MaxInt} {
		still(t, s, func() { refused(t, space.Give(s, a, p), api.ErrArg) })
		still(t, s, func() { refused(t, space.Give(s, 99, p), api.ErrArg) })
		for _, l := range [][]int{{p}, {10, p}, {p, 10}, {1533, 700, p}} {
			still(t, s, func() { refused(t, space.GiveAll(s, a, l), api.ErrArg) })
		}
	}
	still(t, s, func() { refused(t, space.Give(s, 99, 10), api.ErrNone) })
	still(t, s, func() { refused(t, space.GiveAll(s, 99, []int{10, 600}), api.ErrNone) })
	for _, p := range []int{4, 503, 1533} {
		fine(t, space.Give(s, a, p))
		still(t, s, func() { refused(t, space.Give(s, a, p), api.ErrArg) })
	}
	counts(t, s, 1530)
}

// 8.2: one Write a page of the map, from the first byte that changes to the last.
func TestGiveAll(t *testing.T) {
	s := crowded(t, 8192, 2)
	a := begin(t, s)
	still(t, s, func() { fine(t, space.GiveAll(s, a, nil)) })
	still(t, s, func() { fine(t, space.GiveAll(s, 99, []int{})) })
	for _, l := range [][]int{{5, 5}, {5, 6, 5}, {1533, 5, 1533}, {600, 5, 601, 600}} {
		still(t, s, func() { refused(t, space.GiveAll(s, a, l), api.ErrArg) })
	}
	fine(t, space.Give(s, a, 6))
	n := len(s.Log())
	in := []int{1533, 7, 1008, 503, 5, 1009, 999}
	l := in[:6]
	fine(t, space.GiveAll(s, a, l))
	if !slices.Equal(in, []int{1533, 7, 1008, 503, 5, 1009, 999}) {
		t.Error("the list became ", in)
	}
	log := s.Log()[n:]
	if len(log) != 3 {
		t.Fatalf("%d records", len(log))
	}
	between := string(bytes.Repeat([]byte{1}, 495))
	for i, x := range []struct {
		m, off        int
		before, after string
	}{
		{0, 5, "\x01\x00\x01" + between + "\x01", "\x00\x00\x00" + between + "\x00"},
		{2, 0, "\x01\x01", "\x00\x00"},
		{3, 21, "\x01", "\x00"},
	} {
		r := log[i].Rec
		if r.Kind != api.RUpdate || r.Page != x.m || r.Off != x.off || string(r.Before) != x.before || string(r.After) != x.after {
			t.Errorf("record %d is %v", i, r)
		}
	}
	counts(t, s, 1527)
	refused(t, space.GiveAll(s, a, l), api.ErrArg)
	fine(t, s.Rollback(a))
	counts(t, s, 1534)
}

// 8.2
func TestTaken(t *testing.T) {
	s := crowded(t, 8192, 1)
	lay(t, s, 1, 1, []byte{0, 7})
	for _, p := range []int{math.MinInt, -504, -1, 1534, 2015, 2016, math.MaxInt} {
		if is, e := space.Taken(s, p); is || e != api.ErrArg {
			t.Errorf("Taken(%d) is %v, %d", p, is, e)
		}
	}
	for _, p := range []int{0, 1, 503, 504, 505, 506, 1008, 1533} {
		if is, e := space.Taken(s, p); is != (p != 505) || e != api.OK {
			t.Errorf("Taken(%d) is %v, %d", p, is, e)
		}
	}
	counts(t, s, 1533)
}

// 8.3: two who take and give by turns never have one page, and one that goes back leaves all as it was.
func TestTurns(t *testing.T) {
	s, _ := ready(t, 512, 2)
	a, b := begin(t, s), begin(t, s)
	take(t, s, a, 1)
	take(t, s, b, 2)
	take(t, s, a, 3)
	take(t, s, b, 4)
	refused(t, space.Give(s, a, 2), api.ErrBusy)
	refused(t, space.GiveAll(s, a, []int{3, 4}), api.ErrBusy)
	fine(t, s.Commit(b))
	are(t, s, 0, 1, 2, 3, 4)
	b = begin(t, s)
	fine(t, space.Give(s, b, 4))
	fine(t, space.Give(s, a, 2))
	take(t, s, b, 4)
	fine(t, space.Give(s, b, 4))
	take(t, s, a, 2)
	fine(t, space.Give(s, a, 2))
	refused(t, space.Give(s, b, 2), api.ErrArg)
	take(t, s, b, 4)
	take(t, s, b, 5)
	take(t, s, a, 2)
	take(t, s, a, 6)
	fine(t, space.Give(s, b, 4))
	are(t, s, 0, 1, 2, 3, 5, 6)
	fine(t, s.Rollback(a))
	are(t, s, 0, 2, 5)
	take(t, s, b, 1)
	take(t, s, b, 3)
	take(t, s, b, 4)
	fine(t, s.Rollback(b))
	are(t, s, 0, 2, 4)
}

// 8.2: what one gives, another cannot take before it has ended; nor what lies between what it gave at once.
func TestGivenIsBusy(t *testing.T) {
	s, _ := ready(t, 512, 2)
	a := begin(t, s)
	for p := 1; p < 7; p++ {
		take(t, s, a, p)
	}
	fine(t, space.Give(s, a, 4))
	fine(t, s.Commit(a))
	a, b := begin(t, s), begin(t, s)
	fine(t, space.GiveAll(s, a, []int{5, 2}))
	are(t, s, 0, 1, 3, 6)
	take(t, s, b, 7)
	refused(t, space.Give(s, b, 3), api.ErrBusy)
	refused(t, space.GiveAll(s, b, []int{1, 6}), api.ErrBusy)
	fine(t, space.Give(s, b, 1))
	fine(t, space.Give(s, b, 6))
	take(t, s, a, 2)
	take(t, s, a, 4)
	take(t, s, a, 5)
	take(t, s, a, 8)
	fine(t, s.Commit(a))
	take(t, s, b, 1)
	fine(t, s.Rollback(b))
	are(t, s, 0, 1, 2, 3, 4, 5, 6, 8)
}

// 8.3: going back to a mark.
func TestBack(t *testing.T) {
	s, _ := ready(t, 512, 2)
	a := begin(t, s)
	take(t, s, a, 1)
	take(t, s, a, 2)
	mark, e := s.Save(a)
	fine(t, e)
	fine(t, space.GiveAll(s, a, []int{2, 1}))
	take(t, s, a, 1)
	take(t, s, a, 2)
	take(t, s, a, 3)
	fine(t, space.Give(s, a, 1))
	fine(t, s.Back(a, mark))
	are(t, s, 0, 1, 2)
	take(t, s, a, 3)
	fine(t, s.Commit(a))
	are(t, s, 0, 1, 2, 3)
}

// 8.2, rule 8: when the later of several Writes is refused, what the first did is undone, and no more than that.
func TestGiveAllHalf(t *testing.T) {
	s := crowded(t, 8192, 2)
	a, b := begin(t, s), begin(t, s)
	fine(t, space.Give(s, b, 1100))
	fine(t, space.Give(s, a, 6))
	was := maps(t, s)
	refused(t, space.GiveAll(s, a, []int{5, 7, 600, 1099, 1101, 1533}), api.ErrBusy)
	if !bytes.Equal(maps(t, s), was) {
		t.Fatal("something was given")
	}
	fine(t, s.Commit(b))
	b = begin(t, s)
	for _, p := range []int{5, 7, 600, 1099, 1101, 1533} {
		fine(t, space.Give(s, b, p)) // a holds none of them
	}
	fine(t, s.Commit(b))
	fine(t, s.Commit(a))
	counts(t, s, 1526)
}

// cost tells what a log must have room for, that n bytes be written.
func cost(n int) int {
	r := api.Rec{Kind: api.RUpdate, Before: make([]byte, n), After: make([]byte, n)}
	return rec.Size(r) + rec.Size(api.Rec{Kind: api.RClr, After: r.Before})
}

// 8.2: a full log refuses what it has no room for, and nothing is changed by it.
func TestFullLog(t *testing.T) {
	s, _ := ready(t, 256, 2)
	a := begin(t, s)
	fine(t, s.Checkpoint()) // from here on no checkpoint makes room: a stands at the log's start
	n := 0
	for s.Room() >= cost(1) {
		n++
		take(t, s, a, n)
	}
	if n < 5 || n > 40 {
		t.Fatal(n, " pages")
	}
	for _, call := range []func(){
		func() { takeRefused(t, s, a, api.ErrFull) },
		func() { refused(t, space.Give(s, a, n), api.ErrFull) },
		func() { refused(t, space.GiveAll(s, a, []int{1, 3}), api.ErrFull) },
		func() { refused(t, space.Give(s, a, n+1), api.ErrArg) },
		func() { fine(t, space.Format(s, a)) },
	} {
		still(t, s, call)
		counts(t, s, n+1)
	}
	fine(t, s.Rollback(a))
	are(t, s, 0)
	a = begin(t, s)
	take(t, s, a, 1)
}

// 8.2: a log that has room for the first Write of GiveAll, but not for the second.
func TestFullLogHalf(t *testing.T) {
	s := crowded(t, 2800, 2)
	last := s.Pages() - 1
	a := begin(t, s)
	fine(t, s.Checkpoint())
	fine(t, space.Give(s, a, 20))
	for i := 0; s.Room() > cost(400)+cost(10); i++ {
		fine(t, s.Write(a, 9, 0, []byte{byte(i%2 + 1)}))
	}
	was, room := maps(t, s), s.Room()
	if room < cost(400) {
		t.Fatal("room: ", room)
	}
	l := []int{103, 502, 504, last}
	refused(t, space.GiveAll(s, a, l), api.ErrFull)
	if !bytes.Equal(maps(t, s), was) {
		t.Fatal("something was given")
	}
	if r := told(s); r.Kind != api.RClr || s.Room() >= room {
		t.Fatal("the first Write was not made: ", r)
	}
	fine(t, s.Rollback(a))
	counts(t, s, last+1)
	a = begin(t, s)
	fine(t, space.GiveAll(s, a, l))
	counts(t, s, last-3)
}

// 8.4: a store whose device failed.
func TestDead(t *testing.T) {
	s, d := ready(t, 512, 2)
	a := begin(t, s)
	take(t, s, a, 1)
	d.Fuse(0)
	refused(t, s.Commit(a), api.ErrDead)
	takeRefused(t, s, a, api.ErrDead)
	refused(t, space.Format(s, a), api.ErrDead)
	refused(t, space.Give(s, a, 1), api.ErrDead)
	refused(t, space.Give(s, a, 0), api.ErrArg)
	refused(t, space.GiveAll(s, a, []int{1, 2}), api.ErrDead)
	for _, l := range [][]int{{1, -1}, {1, 0}, {1, 94}, {1, 1}} {
		refused(t, space.GiveAll(s, a, l), api.ErrArg)
	}
	if is, e := space.Taken(s, 1); is || e != api.ErrDead {
		t.Error(is, e)
	}
	for _, p := range []int{-1, 94} {
		if is, e := space.Taken(s, p); is || e != api.ErrArg {
			t.Error(is, e)
		}
	}
	if n, e := space.Count(s); n != 0 || e != api.ErrDead {
		t.Error(n, e)
	}
}
