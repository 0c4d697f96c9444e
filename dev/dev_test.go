package dev_test

import (
	"bytes"
	"math"
	"testing"

	"palimpsest/api"
	"palimpsest/dev"
)

// full makes a sector of one byte all through.
func full(c byte) []byte {
	return bytes.Repeat([]byte{c}, api.SectorSize)
}

func open(t *testing.T, n int) *dev.Dev {
	t.Helper()
	d, e := dev.New(n)
	if e != api.OK || d == nil {
		t.Fatalf("New(%d) = %v, %v", n, d, e)
	}
	return d
}

func want(t *testing.T, what string, got, want any) {
	t.Helper()
	if got != want {
		t.Errorf("%s: got %v, want %v", what, got, want)
	}
}

// holds asks for a sector and wants it to be c all through.
func holds(t *testing.T, d *dev.Dev, i int, c byte) {
	t.Helper()
	b, e := d.Read(i)
	if e != api.OK || !bytes.Equal(b, full(c)) {
		t.Errorf("Read(%d) = %v, %v; want %d all through", i, b, e, c)
	}
}

// refuses asks for a sector and wants the error, and nothing beside it.
func refuses(t *testing.T, d *dev.Dev, i int, want api.Errno) {
	t.Helper()
	if b, e := d.Read(i); e != want || len(b) != 0 {
		t.Errorf("Read(%d) = %v, %v; want nothing, %v", i, b, e, want)
	}
}

// kill lets the next Write find the fuse burnt down.
func kill(t *testing.T, d *dev.Dev) {
	t.Helper()
	d.Fuse(0)
	want(t, "Write on a burnt fuse", d.Write(0, full(0xEE)), api.ErrDead)
	want(t, "Dead", d.Dead(), true)
}

func TestNewBounds(t *testing.T) { // 1.1
	for _, n := range []int{math.MinInt, -1, 0, api.MaxSectors + 1, math.MaxInt} {
		if d, e := dev.New(n); d != nil || e != api.ErrArg {
			t.Errorf("New(%d) = %v, %v", n, d, e)
		}
	}
	for _, n := range []int{1, 2, 4, api.MaxSectors} {
		d := open(t, n)
		want(t, "Size", d.Size(), n)
		want(t, "Dead", d.Dead(), false)
		want(t, "Pending", d.Pending(), 0)
		want(t, "Calls", d.Calls(), 0)
		holds(t, d, 0, 0)
		holds(t, d, n-1, 0)
		refuses(t, d, n, api.ErrArg)
	}
}

func TestReadTellsTheLastWrite(t *testing.T) { // 1.1
	d := open(t, 3)
	want(t, "Write", d.Write(2, full(1)), api.OK)
	holds(t, d, 2, 1)
	want(t, "Write", d.Write(2, full(2)), api.OK)
	want(t, "Write", d.Write(0, full(3)), api.OK)
	holds(t, d, 2, 2)
	want(t, "Sync", d.Sync(), api.OK)
	holds(t, d, 2, 2)
	holds(t, d, 0, 3)
	holds(t, d, 1, 0)
	want(t, "Write", d.Write(2, full(0)), api.OK)
	holds(t, d, 2, 0)
}

func TestEachByteOfASector(t *testing.T) { // 1.1
	b := make([]byte, api.SectorSize)
	for i := range b {
		b[i] = byte(i + 1)
	}
	d := open(t, 1)
	want(t, "Write", d.Write(0, b), api.OK)
	got, _ := d.Read(0)
	want(t, "before Sync", bytes.Equal(got, b), true)
	d.Sync()
	got, _ = d.Read(0)
	want(t, "behind Sync", bytes.Equal(got, b), true)
}

func TestWrongArguments(t *testing.T) { // 1.1
	d := open(t, 4)
	d.Write(3, full(7))
	for _, i := range []int{math.MinInt, -1, 4, math.MaxInt} {
		refuses(t, d, i, api.ErrArg)
		want(t, "Write of no sector", d.Write(i, full(1)), api.ErrArg)
	}
	for _, n := range []int{0, 1, 127, 129, 256} {
		want(t, "Write of a wrong length", d.Write(3, make([]byte, n)), api.ErrArg)
	}
	want(t, "Write of nil", d.Write(3, nil), api.ErrArg)
	want(t, "Pending", d.Pending(), 1)
	want(t, "Calls", d.Calls(), 1)
	holds(t, d, 3, 7)
}

func TestSyncEmptiesTheCache(t *testing.T) { // 1.1
	d := open(t, 2)
	want(t, "Sync of nothing", d.Sync(), api.OK)
	for k := range 3 {
		d.Write(0, full(byte(k+1)))
	}
	want(t, "Pending", d.Pending(), 3)
	want(t, "Sync", d.Sync(), api.OK)
	want(t, "Pending", d.Pending(), 0)
	d.Crash(nil)
	holds(t, d, 0, 3)
}

func TestDeadAheadOfAllElse(t *testing.T) { // 1.1
	d := open(t, 2)
	d.Write(1, full(5))
	kill(t, d)
	for _, i := range []int{-1, 0, 1, 2} {
		refuses(t, d, i, api.ErrDead)
		want(t, "Write", d.Write(i, full(1)), api.ErrDead)
		want(t, "Write of a wrong length", d.Write(i, nil), api.ErrDead)
	}
	want(t, "Sync", d.Sync(), api.ErrDead)
	want(t, "Size", d.Size(), 2)
	want(t, "Pending", d.Pending(), 1)
	want(t, "Calls", d.Calls(), 1)
}

func TestFuseCounts(t *testing.T) { // 1.2
	for k := range 6 {
		for _, last := range []string{"write", "sync"} {
			d := open(t, 4)
			d.Fuse(k)
			for i := range k {
				if i%2 == 0 {
					want(t, "Write", d.Write(i%4, full(1)), api.OK)
				} else {
					want(t, "Sync", d.Sync(), api.OK)
				}
			}
			want(t, "Dead ahead of the next", d.Dead(), false)
			holds(t, d, 3, 0)
			if last == "write" {
				want(t, "last Write", d.Write(3, full(9)), api.ErrDead)
			} else {
				want(t, "last Sync", d.Sync(), api.ErrDead)
			}
			want(t, "Dead", d.Dead(), true)
			want(t, "Calls", d.Calls(), k+1)
		}
	}
}

func TestFuseIsNotBurntByWrongCallsAndReads(t *testing.T) { // 1.2
	d := open(t, 2)
	for _, k := range []int{0, 1} {
		d.Fuse(k)
		want(t, "Write of no sector", d.Write(2, full(1)), api.ErrArg)
		want(t, "Write of a wrong length", d.Write(0, full(1)[1:]), api.ErrArg)
		refuses(t, d, -1, api.ErrArg)
		holds(t, d, 1, 0)
		want(t, "Dead", d.Dead(), false)
	}
	want(t, "Write", d.Write(0, full(1)), api.OK)
	want(t, "Write of no sector", d.Write(2, full(1)), api.ErrArg)
	want(t, "Write behind it", d.Write(0, full(2)), api.ErrDead)
}

func TestFuseLeavesTheCache(t *testing.T) { // 1.2
	d := open(t, 2)
	d.Fuse(1)
	d.Write(0, full(1))
	want(t, "Write", d.Write(1, full(2)), api.ErrDead)
	want(t, "Pending", d.Pending(), 1)
	d.Crash([]bool{true, true})
	holds(t, d, 0, 1)
	holds(t, d, 1, 0)

	d.Fuse(1)
	d.Write(0, full(3))
	want(t, "Sync", d.Sync(), api.ErrDead)
	want(t, "Pending", d.Pending(), 1)
	d.Crash(nil)
	holds(t, d, 0, 1)
}

func TestFuseAnew(t *testing.T) { // 1.2
	d := open(t, 1)
	d.Fuse(0)
	d.Fuse(2)
	want(t, "first", d.Sync(), api.OK)
	d.Fuse(1)
	want(t, "second", d.Sync(), api.OK)
	want(t, "third", d.Sync(), api.ErrDead)
	for _, k := range []int{-1, -5, math.MinInt} {
		d = open(t, 1)
		d.Fuse(0)
		d.Fuse(k)
		for range 9 {
			want(t, "without a fuse", d.Sync(), api.OK)
		}
	}
	d.Fuse(math.MaxInt)
	want(t, "with the longest fuse", d.Write(0, full(1)), api.OK)
}

func TestDeadUntilACrash(t *testing.T) { // 1.2
	d := open(t, 1)
	kill(t, d)
	for _, k := range []int{9, 0, -1} {
		d.Fuse(k)
		want(t, "Dead", d.Dead(), true)
		want(t, "Sync", d.Sync(), api.ErrDead)
	}
	d.Fuse(0)
	d.Crash(nil)
	want(t, "Dead behind a crash", d.Dead(), false)
	for range 9 {
		want(t, "Write behind a crash", d.Write(0, full(1)), api.OK)
	}
}

func TestCalls(t *testing.T) { // 1.2
	d := open(t, 2)
	steps := []struct {
		do    func()
		calls int
	}{
		{func() { d.Write(0, full(1)) }, 1},
		{func() { d.Read(0) }, 2},
		{func() { d.Sync() }, 3},
		{func() { d.Read(2) }, 3},
		{func() { d.Write(0, nil) }, 3},
		{func() { d.Size(); d.Pending(); d.Dead(); d.Calls(); d.Copy() }, 3},
		{func() { d.Crash(nil) }, 3},
		{func() { d.Fuse(0); d.Read(1) }, 4},
		{func() { d.Sync() }, 4},
		{func() { d.Read(1) }, 4},
		{func() { d.Crash(nil); d.Sync() }, 5},
	}
	for i, s := range steps {
		s.do()
		if d.Calls() != s.calls {
			t.Errorf("step %d: %d calls, want %d", i, d.Calls(), s.calls)
		}
	}
	c := d.Copy()
	want(t, "Calls of a copy", c.Calls(), 5)
	c.Sync()
	want(t, "Calls of a copy", c.Calls(), 6)
	want(t, "Calls", d.Calls(), 5)
}

func TestCrashKeeps(t *testing.T) { // 1.3
	tests := []struct {
		keep          []bool
		first, second byte
	}{
		{nil, 0, 0},
		{[]bool{}, 0, 0},
		{[]bool{true}, 1, 0},
		{[]bool{false, true}, 0, 2},
		{[]bool{true, false, true}, 3, 0},
		{[]bool{true, true, false}, 1, 2},
		{[]bool{false, false, true, true, true}, 3, 0},
		{[]bool{true, true, true}, 3, 2},
		{[]bool{false, false, false, true}, 0, 0},
	}
	for _, x := range tests {
		d := open(t, 2)
		d.Write(0, full(1))
		d.Write(1, full(2))
		d.Write(0, full(3))
		want(t, "Pending", d.Pending(), 3)
		d.Crash(x.keep)
		want(t, "Pending behind a crash", d.Pending(), 0)
		holds(t, d, 0, x.first)
		holds(t, d, 1, x.second)
		d.Crash([]bool{true, true, true})
		holds(t, d, 0, x.first)
		holds(t, d, 1, x.second)
	}
}

func TestCrashTakesTheFuse(t *testing.T) { // 1.3
	d := open(t, 1)
	d.Fuse(1)
	d.Crash(nil)
	for range 5 {
		want(t, "Sync", d.Sync(), api.OK)
	}
	kill(t, d)
	d.Crash(nil)
	want(t, "Dead", d.Dead(), false)
	want(t, "Sync", d.Sync(), api.OK)
	holds(t, d, 0, 0)
}

func TestCopyIsTheSame(t *testing.T) { // 1.3
	d := open(t, 2)
	d.Write(0, full(1))
	d.Sync()
	d.Write(0, full(2))
	d.Write(1, full(3))
	d.Fuse(1)
	c := d.Copy()
	want(t, "Size", c.Size(), 2)
	want(t, "Pending", c.Pending(), 2)
	want(t, "Calls", c.Calls(), d.Calls())
	holds(t, c, 0, 2)
	want(t, "the copy's fuse", c.Write(0, full(4)), api.OK)
	want(t, "the copy's fuse", c.Sync(), api.ErrDead)
	want(t, "Dead of the other", d.Dead(), false)

	dead := c.Copy()
	want(t, "Dead of a dead one's copy", dead.Dead(), true)
	dead.Crash([]bool{false, true, true})
	holds(t, dead, 0, 4)
	holds(t, dead, 1, 3)
	want(t, "Dead of the first", c.Dead(), true)
	want(t, "Pending of the first", c.Pending(), 3)
	c.Crash(nil)
	holds(t, c, 0, 1)
}

func TestCopySharesNothing(t *testing.T) { // 1.3
	d := open(t, 1)
	for k := range 3 {
		d.Write(0, full(byte(k+1)))
	}
	c := d.Copy()
	d.Write(0, full(0xA))
	c.Write(0, full(0xB))
	holds(t, d, 0, 0xA)
	holds(t, c, 0, 0xB)
	d.Sync()
	c.Crash([]bool{false, true})
	holds(t, d, 0, 0xA)
	holds(t, c, 0, 2)
	d.Crash(nil)
	holds(t, d, 0, 0xA)
}

// history is what a sector may be behind a crash: what was synced last, or a write since.
type history struct {
	synced byte
	since  []byte
}

func (h history) allows(c byte) bool {
	return h.synced == c || bytes.IndexByte(h.since, c) >= 0
}

// TestWhatWasSyncedLasts goes through all lists of six steps on two sectors, and all crashes behind each.
func TestWhatWasSyncedLasts(t *testing.T) { // 1.4
	const steps = 6
	for list := range 729 {
		d := open(t, 2)
		var past [2]history
		rest := list
		for k := range steps {
			s := rest % 3
			rest /= 3
			if s == 2 {
				want(t, "Sync", d.Sync(), api.OK)
				for i := range past {
					if n := len(past[i].since); n > 0 {
						past[i] = history{synced: past[i].since[n-1]}
					}
				}
				continue
			}
			want(t, "Write", d.Write(s, full(byte(k+1))), api.OK)
			past[s].since = append(past[s].since, byte(k+1))
		}
		for mask := range 1 << d.Pending() {
			crashAgain(t, d.Copy(), past, mask)
		}
	}
}

func crashAgain(t *testing.T, d *dev.Dev, past [2]history, mask int) {
	t.Helper()
	keep := make([]bool, d.Pending())
	for i := range keep {
		keep[i] = mask>>i&1 == 1
	}
	d.Crash(keep)
	for i, h := range past {
		b, e := d.Read(i)
		if e != api.OK || !h.allows(b[0]) {
			t.Fatalf("Read(%d) = %v, %v behind Crash(%v); want one of %v", i, b, e, keep, h)
		}
		d.Crash(nil)
		holds(t, d, i, b[0])
	}
}

func TestHandedInIsCopied(t *testing.T) { // 1.5
	d := open(t, 2)
	room := bytes.Repeat([]byte{7}, 2*api.SectorSize)
	b := room[:api.SectorSize]
	d.Write(0, b)
	b[0] = 8
	holds(t, d, 0, 7)
	d.Sync()
	b[1] = 8
	holds(t, d, 0, 7)
	if b[0] != 8 || b[1] != 8 || !bytes.Equal(b[2:], full(7)[2:]) || !bytes.Equal(room[api.SectorSize:], full(7)) {
		t.Error("Write changed what it was handed")
	}
	d.Write(0, full(1))
	d.Write(1, full(1))
	keeps := []bool{true, false, true, false}
	d.Crash(keeps[:2])
	if !keeps[0] || keeps[1] || !keeps[2] || keeps[3] {
		t.Error("Crash changed what it was handed")
	}
	keeps[1] = true
	holds(t, d, 1, 0)
}

func TestToldIsNewMemory(t *testing.T) { // 1.5
	d := open(t, 1)
	for range 2 {
		d.Write(0, full(7))
		a, _ := d.Read(0)
		b, _ := d.Read(0)
		if len(a) != api.SectorSize || len(b) != api.SectorSize {
			t.Fatal("Read", len(a), len(b))
		}
		for i := range a {
			a[i] = 9
		}
		spare := a[:cap(a)]
		for i := range spare {
			spare[i] = 9
		}
		want(t, "the other answer", bytes.Equal(b, full(7)), true)
		holds(t, d, 0, 7)
		d.Sync()
	}
	a, _ := d.Read(0)
	a[0] = 9
	holds(t, d, 0, 7)
}

// TestNoCallPanics asks everything of live and dead devices by the worst arguments; a panic fails it.
func TestNoCallPanics(t *testing.T) { // 1.5
	numbers := []int{math.MinInt, math.MinInt32, -1, 0, 1, 2, 127, 128, 8192, math.MaxInt32, math.MaxInt}
	for _, n := range numbers {
		dev.New(n)
	}
	for _, dead := range []bool{false, true} {
		d := open(t, 2)
		if dead {
			kill(t, d)
		}
		for _, n := range numbers {
			c := d.Copy()
			c.Read(n)
			for _, b := range [][]byte{nil, {}, {1}, full(1), make([]byte, 9999)} {
				c.Write(n, b)
			}
			c.Fuse(n)
			c.Write(0, full(1))
			c.Sync()
			c.Fuse(n)
			c.Crash(make([]bool, 3))
			c.Crash(nil)
			want(t, "Sync", c.Sync(), api.OK)
		}
	}
}

func TestExamples(t *testing.T) { // the chapter's table
	d := open(t, 4)
	want(t, "Write", d.Write(0, full('a')), api.OK)
	want(t, "Pending", d.Pending(), 1)
	d.Crash([]bool{false})
	holds(t, d, 0, 0)

	d.Write(0, full('a'))
	d.Write(0, full('b'))
	d.Crash([]bool{true, false})
	holds(t, d, 0, 'a')

	d.Fuse(1)
	want(t, "Write", d.Write(1, full('a')), api.OK)
	want(t, "Sync", d.Sync(), api.ErrDead)
	want(t, "Dead", d.Dead(), true)
	refuses(t, d, 0, api.ErrDead)
}
