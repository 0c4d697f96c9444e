package store_test

import (
	"bytes"
	"math/rand"
	"slices"
	"strconv"
	"testing"

	"palimpsest/api"
	"palimpsest/dev"
	"palimpsest/store"
)

const touched = 7 // the pages from 0 on that are written to

// A state is what the pages are that are written to.
type state [touched][api.PageData]byte

// A change is a Write that made a record.
type change struct {
	lsn, page, off int
	b              []byte
}

// witness is one who uses a store, and remembers what the commits made of its pages.
type witness struct {
	t      *testing.T
	d      *dev.Dev
	s      *store.Store
	frames int
	made   []state          // behind each number of commits
	open   []int            // by rising number
	did    map[int][]change // by open ones, and not undone
	under  int              // the transaction whose commit is under way, or 0
	failed bool             // a call answered that the device is dead
}

func watch(t *testing.T, d *dev.Dev, frames int) *witness {
	w := &witness{t: t, d: d, frames: frames, made: make([]state, 1)}
	w.stand()
	return w
}

// stand opens the store of a device that does not fail.
func (w *witness) stand() {
	w.t.Helper()
	before := w.d.Calls()
	s, e := store.Open(w.d, w.frames)
	if e != api.OK {
		w.t.Fatal("Open: ", e)
	}
	log, pages := store.Layout(w.d.Size())
	if n := w.d.Calls() - before; n > 200+100*log+40*pages { // 7.10
		w.t.Fatal("Open: ", n, " calls of the device")
	}
	w.s, w.open, w.did, w.under, w.failed = s, nil, map[int][]change{}, 0, false
}

// fork is the same witness of a device that goes another way from here on.
func (w *witness) fork() *witness {
	v := *w
	v.d = w.d.Copy()
	v.made = slices.Clone(w.made)
	return &v
}

// heard takes a call's error, and tells whether it was answered OK. No call hides that the device failed.
func (w *witness) heard(e api.Errno) bool {
	w.t.Helper()
	if (e == api.ErrDead) != w.d.Dead() {
		w.t.Fatal("answered ", e, " though the device is dead: ", w.d.Dead())
	}
	switch e {
	case api.OK:
		return true
	case api.ErrDead:
		w.failed = true
	case api.ErrFull, api.ErrBusy:
	default:
		w.t.Fatal("answered ", e)
	}
	return false
}

func (w *witness) begin() int {
	w.t.Helper()
	t, e := w.s.Begin()
	if w.heard(e) {
		w.open = append(w.open, t)
	}
	return t
}

func (w *witness) write(t, p, off int, b ...byte) {
	w.t.Helper()
	was, _ := w.s.Save(t)
	if !w.heard(w.s.Write(t, p, off, b)) {
		return
	}
	if lsn, _ := w.s.Save(t); lsn > was {
		w.did[t] = append(w.did[t], change{lsn, p, off, b})
	}
}

func (w *witness) commit(t int) {
	w.t.Helper()
	w.under = t
	if w.heard(w.s.Commit(t)) {
		w.under = 0
		w.made = append(w.made, w.with(t))
		w.close(t)
	}
}

// with tells what the pages would be if t were committed now.
func (w *witness) with(t int) state {
	x := w.made[len(w.made)-1]
	for _, c := range w.did[t] {
		copy(x[c.page][c.off:], c.b)
	}
	return x
}

// must takes the answer of a call that is never refused (7.9).
func (w *witness) must(e api.Errno) bool {
	w.t.Helper()
	if e != api.OK && e != api.ErrDead {
		w.t.Fatal("refused: ", e)
	}
	return w.heard(e)
}

func (w *witness) rollback(t int) {
	w.t.Helper()
	if w.must(w.s.Rollback(t)) {
		w.close(t)
	}
}

func (w *witness) back(t, mark int) {
	w.t.Helper()
	if w.must(w.s.Back(t, mark)) {
		w.did[t] = slices.DeleteFunc(w.did[t], func(c change) bool { return c.lsn > mark })
	}
}

func (w *witness) close(t int) {
	delete(w.did, t)
	w.open = slices.DeleteFunc(w.open, func(x int) bool { return x == t })
}

// look holds each byte against what the commits and the open ones made it.
func (w *witness) look() {
	w.t.Helper()
	now := w.made[len(w.made)-1]
	for _, t := range w.open {
		for _, c := range w.did[t] {
			copy(now[c.page][c.off:], c.b)
		}
	}
	for p := range touched {
		b, e := w.s.Read(p, 0, api.PageData)
		if !w.heard(e) {
			return
		}
		if !bytes.Equal(b, now[p][:]) {
			w.t.Fatalf("page %d is %v, want %v", p, b, now[p])
		}
	}
}

// rise crashes the device, lets it fail while the store opens as often as fuses tells, and then looks at what is there (7.8).
func (w *witness) rise(keep func(n int) []bool, fuses ...int) {
	w.t.Helper()
	w.d.Crash(keep(w.d.Pending()))
	for _, k := range fuses {
		w.opens(k)
		w.d.Crash(keep(w.d.Pending()))
	}
	more := w.under
	last := w.with(more)
	w.stand()
	k, acked := w.s.Commits(), len(w.made)-1
	if k != acked && (more == 0 || k != acked+1) {
		w.t.Fatalf("%d commits, %d were answered, under way is %d", k, acked, more)
	}
	if k > acked {
		w.made = append(w.made, last)
	}
	w.fresh()
	w.look()
}

// opens opens the store of a device that fails behind so many writes, and tells whether it came to its end ahead of that.
func (w *witness) opens(fuse int) bool {
	w.t.Helper()
	w.d.Fuse(fuse)
	s, e := store.Open(w.d, w.frames)
	if w.heard(e) != (s != nil) {
		w.t.Fatal("Open: ", s, e)
	}
	return e == api.OK
}

// fresh holds what a store tells when it was opened: its log is empty, and nobody is open.
func (w *witness) fresh() {
	w.t.Helper()
	if l := w.s.Txns(); len(l) > 0 {
		w.t.Fatal("open: ", l)
	}
	if l := w.s.Log(); len(l) > 0 {
		w.t.Fatal("log: ", l)
	}
	log, pages := store.Layout(w.d.Size())
	m := newest(w.d)
	if want := (m[1]/sectorBytes+log-1)*sectorBytes - m[1] - api.Keep; w.s.Room() != want {
		w.t.Fatal("Room is ", w.s.Room(), ", want ", want)
	}
	if m[2] != w.s.Commits() || w.s.Pages() != pages {
		w.t.Fatal("the master is ", m, ", commits ", w.s.Commits(), ", pages ", w.s.Pages())
	}
	if w.d.Pending() > 0 {
		w.t.Fatal(w.d.Pending(), " writes wait")
	}
}

// newest tells the numbers of the master that counts.
func newest(d *dev.Dev) [4]int {
	var best [4]int
	for i := range 2 {
		b, _ := d.Read(i)
		var m [4]int
		for k := range 32 {
			m[k/8] = m[k/8]<<8 | int(b[k])
		}
		if m[0] > best[0] {
			best = m
		}
	}
	return best
}

func keepAll(n int) []bool {
	return slices.Repeat([]bool{true}, n)
}

func keepNone(int) []bool {
	return nil
}

// keepBits keeps the writes whose bits are set.
func keepBits(bits int) func(int) []bool {
	return func(n int) []bool {
		l := make([]bool, n)
		for i := range l {
			l[i] = bits>>(i%32)&1 > 0
		}
		return l
	}
}

// play is calls of all kinds: pages driven out ahead of their commits, two transactions in one page, marks, checkpoints with some open and with none.
func (w *witness) play() {
	w.t.Helper()
	a, b := w.begin(), w.begin()
	for _, f := range []func(){
		func() { w.write(a, 0, 0, 1, 2, 3) },
		func() { w.write(b, 0, 3, 4, 5) },
		func() { w.heard(w.s.Evict(0)) },
		func() { w.commit(a) },
		func() { w.write(b, 1, 10, 6) },
		func() { w.heard(w.s.Checkpoint()) },
		func() { w.write(b, 0, 3, 7) },
		func() {
			mark, e := w.s.Save(b)
			w.heard(e)
			w.write(b, 0, 3, 8, 9)
			w.write(b, 2, 0, 9)
			w.heard(w.s.Evict(0))
			w.back(b, mark)
		},
		func() { w.write(b, 3, 503, 10) },
		func() { w.heard(w.s.Evict(3)) },
		func() { a = w.begin() },
		func() { w.write(a, 3, 0, 11, 12) },
		func() { w.write(a, 1, 11, 13) },
		func() { w.heard(w.s.Evict(1)) },
		func() { w.rollback(b) },
		func() { w.commit(a) },
		func() { w.heard(w.s.Checkpoint()) },
		func() { a = w.begin() },
		func() { w.write(a, 4, 5, 14) },
		func() { w.write(a, 0, 1, 15) },
		func() { w.heard(w.s.Evict(0)) },
		func() { b = w.begin() },
		func() { w.write(b, 4, 6, 16) },
		func() { w.commit(b) },
		func() { w.write(a, 1, 1, 17) },
		func() { w.heard(w.s.Evict(1)) },
		func() { w.commit(a) },
	} {
		if !w.failed {
			f()
		}
	}
}

// 7.8: the device fails at each write of the play; what waits is kept in many ways; and the Open behind it fails at each of its writes, and the one behind that.
func TestCrashAtEachWrite(t *testing.T) {
	for _, frames := range []int{1, 2, 4} {
		t.Run(strconv.Itoa(frames), func(t *testing.T) {
			t.Parallel()
			fuse := 0
			for crashAt(t, frames, fuse) {
				fuse++
			}
			if fuse < 100 {
				t.Error("the device did not fail behind ", fuse)
			}
		})
	}
}

// crashAt lets the device fail behind so many writes of the play; false, if the play has no more.
func crashAt(t *testing.T, frames, fuse int) bool {
	d, _ := dev.New(200)
	w := watch(t, d, frames)
	w.d.Fuse(fuse)
	w.play()
	if !w.failed {
		if len(w.made) != 5 {
			t.Fatal(len(w.made), " commits")
		}
		return false
	}
	w.dead()
	for i, keep := range keeps(w.d.Pending()) {
		w.fork().rise(keep)
		if i%4 == fuse%4 {
			w.openings(keep)
		}
	}
	return true
}

// keeps tells all ways to keep some of n writes, or many of them if they are many.
func keeps(n int) []func(int) []bool {
	l := []func(int) []bool{keepNone, keepAll}
	for bits := 1; bits < 1<<min(n, 4)-1; bits++ {
		l = append(l, keepBits(bits))
	}
	return l
}

// openings lets the device fail at each write of the Open behind a crash, and at some of the next one.
func (w *witness) openings(keep func(int) []bool) {
	w.t.Helper()
	for fuse := 0; ; fuse += 1 + fuse/8 {
		v := w.fork()
		v.d.Crash(keep(v.d.Pending()))
		if v.opens(fuse) {
			return
		}
		v.rise(keep, fuse/2, 3)
	}
}

// dead holds that a store whose device failed does nothing more, but tells what it knows (7.7).
func (w *witness) dead() {
	w.t.Helper()
	txns, log, room, commits := w.s.Txns(), w.s.Log(), w.s.Room(), w.s.Commits()
	calls := w.d.Calls()
	_, begin := w.s.Begin()
	_, read := w.s.Read(-1, 0, 0)
	_, save := w.s.Save(-1)
	for i, e := range []api.Errno{
		begin, read, save, w.s.Write(-1, -1, -1, nil), w.s.Commit(-1), w.s.Rollback(-1), w.s.Back(-1, -1), w.s.Checkpoint(), w.s.Evict(-1),
	} {
		if e != api.ErrDead {
			w.t.Fatal("call ", i, " of a dead store: ", e)
		}
	}
	if w.d.Calls() != calls || !slices.Equal(w.s.Txns(), txns) || len(w.s.Log()) != len(log) || w.s.Room() != room || w.s.Commits() != commits {
		w.t.Fatal("a dead store changed")
	}
	if n := commits - (len(w.made) - 1); n < 0 || n > 1 {
		w.t.Fatal(n, " commits more than answered")
	}
	for _, x := range txns {
		if x.State != api.TRun || !slices.Contains(w.open, x.ID) {
			w.t.Fatal("open: ", txns)
		}
	}
}

// turn makes a call, chosen by r.
func (w *witness) turn(r *rand.Rand) {
	w.t.Helper()
	if len(w.open) == 0 || r.Intn(14) == 0 {
		w.begin()
		return
	}
	t := w.open[r.Intn(len(w.open))]
	switch r.Intn(24) {
	case 0, 1:
		w.commit(t)
	case 2:
		w.rollback(t)
	case 3, 4:
		mark := 0
		for _, x := range w.s.Log() {
			if x.Rec.Txn == t && (mark == 0 || r.Intn(3) == 0) {
				mark = x.LSN
			}
		}
		w.back(t, mark)
	case 5:
		w.heard(w.s.Checkpoint())
	case 6, 7, 8:
		w.heard(w.s.Evict(r.Intn(touched)))
	case 9:
		w.look()
	default:
		size := []int{1, 1, 2, 2, 3, 5, 30, 200}[r.Intn(8)]
		b := make([]byte, size)
		r.Read(b)
		off := []int{0, r.Intn(9), 504 - size}[r.Intn(3)]
		w.write(t, r.Intn(touched), off, b...)
	}
}

// 7.8, 7.9: long lives with many crashes, on devices whose log is full again and again, with any of the writes kept.
func TestLives(t *testing.T) {
	for seed := range int64(250) {
		r := rand.New(rand.NewSource(seed))
		d, _ := dev.New([]int{128, 150, 300, 500}[r.Intn(4)])
		w := watch(t, d, 1+r.Intn(9))
		keep := func(n int) []bool { return keepBits(r.Int())(n) }
		for range 25 {
			w.d.Fuse(r.Intn(400))
			for range 400 {
				if w.turn(r); w.failed {
					w.dead()
					break
				}
			}
			var fuses []int
			for range r.Intn(5) {
				fuses = append(fuses, r.Intn(90))
			}
			w.frames = 1 + r.Intn(9)
			w.rise(keep, fuses...)
		}
	}
}
