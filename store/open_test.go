package store_test

import (
	"bytes"
	"math/rand"
	"slices"
	"testing"

	"palimpsest/api"
	"palimpsest/dev"
	"palimpsest/file"
	"palimpsest/rec"
	"palimpsest/redo"
	"palimpsest/ring"
	"palimpsest/store"
)

// scribe lays a device by hand: a master, a log and pages.
type scribe struct {
	t *testing.T
	d *dev.Dev
	r *ring.Ring
	f *file.File
	m [4]int
}

func write(t *testing.T, sectors int, m [4]int) *scribe {
	t.Helper()
	d, _ := dev.New(sectors)
	fine(t, d.Write(m[0]%2, masterBytes(m)))
	log, pages := store.Layout(sectors)
	r, e := ring.Open(d, 2, log, m[1])
	fine(t, e)
	f, e := file.Open(d, 2+log, pages)
	fine(t, e)
	return &scribe{t, d, r, f, m}
}

// say puts a record behind the log, and tells its LSN.
func (x *scribe) say(r api.Rec) int {
	x.t.Helper()
	lsn := x.r.Tail() + 1
	fine(x.t, x.r.Append(rec.Encode(r)))
	fine(x.t, x.r.Flush())
	return lsn
}

func (x *scribe) begin(id int) int {
	return x.say(api.Rec{Kind: api.RBegin, Txn: id})
}

func (x *scribe) update(id, prev, page, off int, before, after string) int {
	return x.say(api.Rec{Kind: api.RUpdate, Txn: id, Prev: prev, Page: page, Off: off, Before: []byte(before), After: []byte(after)})
}

func (x *scribe) commit(id, prev int) int {
	return x.say(api.Rec{Kind: api.RCommit, Txn: id, Prev: prev})
}

// page lays a page.
func (x *scribe) page(p, lsn int, text string) {
	x.t.Helper()
	b := make([]byte, api.PageSize)
	b[6], b[7] = byte(lsn>>8), byte(lsn)
	copy(b[8:], text)
	fine(x.t, x.f.Write(p, b))
}

// lsnOf tells the LSN that a page has on the device.
func (x *scribe) lsnOf(p int) int {
	x.t.Helper()
	b, e := x.f.Read(p)
	fine(x.t, e)
	n := 0
	for _, c := range b[:8] {
		n = n<<8 | int(c)
	}
	return n
}

// wrote tells the records that an Open has put behind those that were said.
func (x *scribe) wrote() []redo.Line {
	x.t.Helper()
	log, _ := store.Layout(x.d.Size())
	r, e := ring.Open(x.d, 2, log, x.m[1])
	fine(x.t, e)
	at := x.r.Tail()
	b, e := r.Read(at, r.Tail()-at)
	fine(x.t, e)
	var l []redo.Line
	for len(b) > 0 {
		y, size, ok := rec.Decode(b)
		if !ok {
			x.t.Fatal("no record at ", at)
		}
		l = append(l, redo.Line{LSN: at + 1, Rec: y})
		at, b = at+size, b[size:]
	}
	return l
}

func (x *scribe) wroteJust(want ...api.Rec) {
	x.t.Helper()
	got := x.wrote()
	if len(got) != len(want) {
		x.t.Fatalf("Open wrote %v, want %v", got, want)
	}
	for i := range want {
		if !bytes.Equal(rec.Encode(got[i].Rec), rec.Encode(want[i])) {
			x.t.Fatalf("record %d is %v, want %v", i, got[i].Rec, want[i])
		}
	}
}

func restartIs(t *testing.T, s *store.Store, redone, undone int) {
	t.Helper()
	if r, u := s.Restart(); r != redone || u != undone {
		t.Fatalf("Restart is %d, %d, want %d, %d", r, u, redone, undone)
	}
}

// 7.2: who committed stays, who did not goes; each is ended; the master counts the commits ahead of the log.
func TestRestartWithoutCheckpoint(t *testing.T) {
	x := write(t, 160, [4]int{6, 1000, 5, 3})
	b7 := x.begin(7)
	b9 := x.begin(9)
	u7 := x.update(7, b7, 2, 0, "\x00\x00", "ab")
	u9 := x.update(9, b9, 2, 2, "\x00", "x")
	v9 := x.update(9, u9, 3, 0, "\x00", "y")
	b8 := x.begin(8)
	u8 := x.update(8, b8, 3, 1, "\x00", "z")
	c7 := x.commit(7, u7)
	c8 := x.commit(8, u8)
	a9 := x.say(api.Rec{Kind: api.RAbort, Txn: 9, Prev: v9})
	end := x.r.Tail()
	s := again(t, x.d, 1)
	restartIs(t, s, 4, 2)
	if s.Commits() != 7 || len(s.Txns()) > 0 || kinds(s) != "" {
		t.Error(s.Commits(), s.Txns(), kinds(s))
	}
	clr := end + 1
	x.wroteJust(
		api.Rec{Kind: api.RClr, Txn: 9, Prev: a9, Next: u9, Page: 3, Off: 0, After: []byte{0}},
		api.Rec{Kind: api.RClr, Txn: 9, Prev: clr, Next: b9, Page: 2, Off: 2, After: []byte{0}},
		api.Rec{Kind: api.REnd, Txn: 9, Prev: clr + 97},
		api.Rec{Kind: api.REnd, Txn: 7, Prev: c7},
		api.Rec{Kind: api.REnd, Txn: 8, Prev: c8})
	holds(t, s, 2, 0, "ab\x00")
	holds(t, s, 3, 0, "\x00z")
	if x.lsnOf(2) != clr+97 || x.lsnOf(3) != clr {
		t.Error(x.lsnOf(2), x.lsnOf(3))
	}
	if m := newest(x.d); m != [4]int{7, end + 2*97 + 3*96, 7, 10} {
		t.Error(m)
	}
	if old, _ := x.d.Read(0); !bytes.Equal(old, masterBytes(x.m)) {
		t.Error("the master that counted was written over")
	}
	if begin(t, s) != 10 || save(t, s, 10) != end+2*97+3*96+1 {
		t.Error(s.Txns())
	}
}

// 7.2: a checkpoint tells who was open, which pages were dirty, and how many commits there were.
func TestRestartFromCheckpoint(t *testing.T) {
	x := write(t, 160, [4]int{3, 0, 5, 2})
	b4 := x.begin(4)
	u4 := x.update(4, b4, 1, 0, "\x00", "4")
	b5 := x.begin(5)
	u5 := x.update(5, b5, 2, 0, "\x00", "5")
	c5 := x.commit(5, u5)
	x.say(api.Rec{Kind: api.REnd, Txn: 5, Prev: c5})
	x.page(2, u5, "5")
	x.say(api.Rec{Kind: api.RCheck, Txns: []api.Txn{{ID: 4, Last: u4, State: api.TRun}, {ID: 40, Last: 0, State: api.TRun}}, Dirty: []api.Dirty{{Page: 1, LSN: u4}}, Count: 11})
	b6 := x.begin(6)
	u6 := x.update(6, b6, 2, 1, "\x00", "6")
	c6 := x.commit(6, u6)
	end := x.r.Tail()
	s := again(t, x.d, 2)
	restartIs(t, s, 2, 1) // page 2 has what came ahead of the checkpoint
	if s.Commits() != 12 {
		t.Error(s.Commits())
	}
	x.wroteJust(
		api.Rec{Kind: api.REnd, Txn: 40},
		api.Rec{Kind: api.RClr, Txn: 4, Prev: u4, Next: b4, Page: 1, After: []byte{0}},
		api.Rec{Kind: api.REnd, Txn: 4, Prev: end + 97},
		api.Rec{Kind: api.REnd, Txn: 6, Prev: c6})
	holds(t, s, 1, 0, "\x00")
	holds(t, s, 2, 0, "56")
	if begin(t, s) != 41 {
		t.Error(s.Txns())
	}
}

// 7.2: the next number is at least the master's, and 1.
func TestNextNumber(t *testing.T) {
	for _, a := range [][3]int{{0, 0, 1}, {0, 3, 4}, {9, 3, 9}, {4, 3, 4}, {3, 3, 4}, {1, 0, 1}} {
		x := write(t, 128, [4]int{1, 0, 0, a[0]})
		if a[1] > 0 {
			x.begin(a[1])
		}
		if s := again(t, x.d, 1); begin(t, s) != a[2] {
			t.Error(a, s.Txns())
		}
	}
}

// 7.2: only what a page lacks is redone; what was undone by a clr is not undone again.
func TestRestartGoesOn(t *testing.T) {
	x := write(t, 160, [4]int{1, 0, 0, 1})
	b1 := x.begin(1)
	u1 := x.update(1, b1, 0, 0, "\x00", "a")
	v1 := x.update(1, u1, 0, 1, "\x00", "b")
	w1 := x.update(1, v1, 1, 0, "\x00", "c")
	c1 := x.say(api.Rec{Kind: api.RClr, Txn: 1, Prev: w1, Next: v1, Page: 1, Off: 0, After: []byte{0}})
	x.page(0, u1, "a")
	x.page(1, c1, "")
	end := x.r.Tail()
	s := again(t, x.d, 1)
	restartIs(t, s, 1, 2)
	x.wroteJust(
		api.Rec{Kind: api.RClr, Txn: 1, Prev: c1, Next: u1, Off: 1, After: []byte{0}},
		api.Rec{Kind: api.RClr, Txn: 1, Prev: end + 1, Next: b1, Off: 0, After: []byte{0}},
		api.Rec{Kind: api.REnd, Txn: 1, Prev: end + 1 + 97})
	holds(t, s, 0, 0, "\x00\x00")
	again(t, x.d, 1)
	restartIs(t, again(t, x.d, 1), 0, 0)
}

// 7.2: of several losers always the newest update is undone first.
func TestRestartUndoesByTurns(t *testing.T) {
	x := write(t, 200, [4]int{1, 0, 0, 1})
	last := map[int]int{1: x.begin(1), 2: x.begin(2), 3: x.begin(3)}
	var want []int
	for i, id := range []int{2, 1, 3, 3, 1, 2, 1, 3, 2} {
		last[id] = x.update(id, last[id], i%4, i, "\x00", "x")
		want = append(want, i)
	}
	slices.Reverse(want)
	again(t, x.d, 1)
	var got []int
	prev := last
	for _, l := range x.wrote() {
		if l.Rec.Prev != prev[l.Rec.Txn] {
			t.Error(l, prev[l.Rec.Txn])
		}
		prev[l.Rec.Txn] = l.LSN
		if l.Rec.Kind == api.RClr {
			got = append(got, l.Rec.Off)
		}
	}
	if !slices.Equal(got, want) {
		t.Error(got, want)
	}
}

// 7.1: what counts when a master, or both, are torn. The older one counts as long as the log from its Start on is there.
func TestTornMasters(t *testing.T) {
	full, _ := dev.New(160)
	s := again(t, full, 2)
	x, y := begin(t, s), begin(t, s)
	fine(t, s.Write(x, 0, 0, []byte("x")))
	fine(t, s.Write(y, 0, 1, []byte("y")))
	fine(t, s.Commit(x))
	fine(t, s.Checkpoint())
	fine(t, s.Rollback(y))
	fine(t, s.Checkpoint())
	for range 2 {
		z := begin(t, s)
		fine(t, s.Write(z, 1, z, []byte("z")))
		fine(t, s.Commit(z))
	}
	m := newest(full)
	if m[0] != 3 {
		t.Fatal(m)
	}
	for name, tear := range map[string]func(b []byte){
		"whole":                  func(b []byte) {},
		"noughts":                func(b []byte) { clear(b) },
		"its number is 0":        func(b []byte) { clear(b[:8]) },
		"ones":                   func(b []byte) { copy(b, bytes.Repeat([]byte{255}, 128)) },
		"its number is too high": func(b []byte) { b[0] = 64 },
		"it is another sector's": func(b []byte) { b[7]++ },
		"its start is too far":   func(b []byte) { b[10] = 2 },
		"its commits are too":    func(b []byte) { b[16] = 255 },
		"its next is too":        func(b []byte) { b[24] = 128 },
		"bytes stand behind it":  func(b []byte) { b[127] = 1 },
	} {
		for both := range 2 {
			d := full.Copy()
			for i := range 1 + both {
				at := (m[0] + i) % 2
				b, _ := d.Read(at)
				tear(b)
				fine(t, d.Write(at, b))
			}
			s, e := store.Open(d, 3)
			if e != api.OK {
				t.Fatal(name, both, e)
			}
			if s.Commits() != 3 || text(t, s, 0, 0, 2) != "x\x00" || text(t, s, 1, 3, 2) != "zz" || len(s.Txns()) > 0 {
				t.Error(name, both, s.Commits(), text(t, s, 0, 0, 2), text(t, s, 1, 3, 2))
			}
			if begin(t, s) != 5 {
				t.Error(name, both, s.Txns())
			}
			want := []int{m[0], 1}[both] // the one that counts is the older one, or none
			if name == "whole" {
				want = m[0] + 1
			}
			if got, _ := d.Read(want % 2); got[7] != byte(want) || !bytes.Equal(got[:7], make([]byte, 7)) {
				t.Error(name, both, got, want)
			}
		}
	}
}

// 7.1: a device of noughts has no master; its first is number 1, on sector 1.
func TestFirstMasters(t *testing.T) {
	for fuse := 0; ; fuse++ {
		d, _ := dev.New(128)
		d.Fuse(fuse)
		if _, e := store.Open(d, 1); e == api.OK {
			break
		}
		d.Crash(nil)
		again(t, d, 1)
		first, _ := d.Read(1)
		zero, _ := d.Read(0)
		if !bytes.Equal(first, masterBytes([4]int{1, 0, 0, 1})) || !bytes.Equal(zero, make([]byte, 128)) {
			t.Fatal(fuse, first, zero)
		}
		again(t, d, 1)
		if b, _ := d.Read(0); !bytes.Equal(b, masterBytes([4]int{2, 0, 0, 1})) {
			t.Fatal(fuse, b)
		}
	}
}

// 7.11: records that no store wrote, and bytes that are none, do no harm to an Open nor to what comes behind.
func TestStrangeLogs(t *testing.T) {
	for i, lay := range []func(x *scribe){
		func(x *scribe) { x.update(1, 0, 1<<40, 0, "a", "b") },
		func(x *scribe) { x.update(1, 0, 30, 0, "a", "b") },
		func(x *scribe) { x.update(1, 0, 0, 504, "a", "b") },
		func(x *scribe) { x.update(1, 0, 0, 1<<61, "a", "b") },
		func(x *scribe) { x.update(1, 0, 0, 0, string(make([]byte, 505)), string(make([]byte, 600))) },
		func(x *scribe) { x.update(0, 0, 0, 100, "a", "") },
		func(x *scribe) { x.update(1, x.r.Tail()+1, 0, 100, "a", "b") },
		func(x *scribe) { x.update(1, 1<<50, 0, 100, "", "") },
		func(x *scribe) { x.update(1, 5, 0, 100, "", "") },
		func(x *scribe) { x.update(2, x.update(1, 0, 0, 100, "\x00", "b"), 0, 101, "\x00", "c") },
		func(x *scribe) { x.say(api.Rec{Kind: 99, Txn: 4}) },
		func(x *scribe) { x.say(api.Rec{Kind: api.RClr, Txn: 4, Next: 1 << 60, Page: 1 << 60}) },
		func(x *scribe) { x.say(api.Rec{Kind: api.REnd, Txn: 4}) },
		func(x *scribe) {
			x.say(api.Rec{Kind: api.RCheck, Txns: []api.Txn{{ID: 0, Last: -1, State: 9}, {ID: 3, Last: 1 << 60}}, Dirty: []api.Dirty{{Page: 1 << 60, LSN: 1}, {Page: 3, LSN: 1}}, Count: 1})
		},
		func(x *scribe) { fine(x.t, x.r.Append([]byte("these are no records"))); fine(x.t, x.r.Flush()) },
	} {
		x := write(t, 160, [4]int{1, 0, 0, 1})
		b8 := x.begin(8)
		u8 := x.update(8, b8, 3, 0, "\x00", "8")
		x.commit(8, u8)
		lay(x)
		s, e := store.Open(x.d, 2)
		if e != api.OK {
			t.Fatal(i, e)
		}
		y := begin(t, s)
		fine(t, s.Write(y, 3, 1, []byte("9")))
		fine(t, s.Commit(y))
		x.d.Crash(nil)
		s = again(t, x.d, 1)
		if s.Commits() != 2 || text(t, s, 3, 0, 2) != "89" {
			t.Error(i, s.Commits(), text(t, s, 3, 0, 2))
		}
	}
}

// 7.2, 7.11: a log that was filled beyond what is reserved can't be undone: Open answers so, and ends.
func TestOpenWithoutRoom(t *testing.T) {
	x := write(t, 128, [4]int{1, 0, 0, 1})
	last := x.begin(1)
	for i := 0; x.r.Room() >= 98; i++ {
		last = x.update(1, last, 0, i, "\x00", "a")
	}
	if s, e := store.Open(x.d, 2); s != nil || e != api.ErrFull {
		t.Error(s, e)
	}
}

// 7.11: whatever sectors are torn, each call ends.
func TestTornSectors(t *testing.T) {
	for seed := range int64(150) {
		r := rand.New(rand.NewSource(seed))
		d, _ := dev.New(128 + r.Intn(40))
		w := watch(t, d, 1+r.Intn(3))
		for range 40 {
			w.turn(r)
		}
		for range 1 + r.Intn(6) {
			i := r.Intn(40)
			b, _ := d.Read(i)
			for range 1 + r.Intn(4) {
				b[r.Intn(128)] = byte(r.Intn(256))
			}
			d.Write(i, b)
		}
		for range 2 {
			s, e := store.Open(d, 2)
			if e != api.OK {
				continue
			}
			for i := range 20 {
				t, _ := s.Begin()
				s.Write(t, i%9, i, []byte("abc"))
				s.Read(i, i, i)
				mark, _ := s.Save(t)
				s.Write(t, 9, i, []byte("d"))
				s.Back(t, mark)
				s.Log()
				s.Checkpoint()
				if i%3 > 0 {
					s.Commit(t)
				} else {
					s.Rollback(t)
				}
			}
		}
	}
}

// worst lays a log that asks for as many calls of the device as it can: each record is of another page, and the pages have nothing of it.
func worst(t *testing.T, sectors, way int) *dev.Dev {
	t.Helper()
	x := write(t, sectors, [4]int{1, 57, 0, 1})
	_, pages := store.Layout(sectors)
	last := x.begin(1)
	if way == 0 { // all of it committed: a log full of what is redone
		var b []byte
		for i := 0; x.r.Room()-len(b) >= 99+2*96; i++ {
			b = append(b, rec.Encode(api.Rec{Kind: api.RUpdate, Txn: 1, Prev: last, Page: i % pages, Off: i / pages, Before: []byte{0}, After: []byte{1}})...)
		}
		b = append(b, rec.Encode(api.Rec{Kind: api.RCommit, Txn: 1, Prev: last})...)
		fine(t, x.r.Append(b))
		fine(t, x.r.Flush())
		return x.d
	}
	for i := 0; x.r.Room() >= 98+97*(i+1)+96; i++ { // none of it: half a log to redo, and then to undo
		last = x.update(1, last, i%pages, i/pages, "\x00", "a")
	}
	return x.d
}

// 7.10
func TestCallsOfOpen(t *testing.T) {
	for _, sectors := range []int{128, 200, 512, 2000, 8192} {
		log, pages := store.Layout(sectors)
		for way := range 2 {
			for _, frames := range []int{1, 2, 64} {
				d := worst(t, sectors, way)
				before := d.Calls()
				s := again(t, d, frames)
				if n := d.Calls() - before; n > 200+100*log+40*pages {
					t.Error(sectors, way, frames, n, " calls of ", 200+100*log+40*pages)
				}
				if r, u := s.Restart(); r < 10 || (u > 0) != (way > 0) {
					t.Error(sectors, way, r, u)
				}
			}
		}
		d, _ := dev.New(sectors)
		again(t, d, 1)
		before := d.Calls()
		again(t, d, 1)
		if n := d.Calls() - before; n > 10 {
			t.Error("nothing to do: ", n, " calls")
		}
	}
}
