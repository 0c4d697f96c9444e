package pool_test

import (
	"bytes"
	"math"
	"slices"
	"testing"

	"palimpsest/api"
	"palimpsest/dev"
	"palimpsest/file"
	"palimpsest/pool"
)

const (
	whole = 512
	steps = 14 // Writes and Syncs of a page's write
	reads = 4  // Reads of a page's
)

// A bench is a pool, with all that it stands on.
type bench struct {
	t      *testing.T
	d      *dev.Dev
	f      *file.File
	p      *pool.Pool
	forced []int         // the LSNs that force was asked for
	refuse api.Errno     // what force answers
	during func(lsn int) // what else is done while force runs
}

// stand makes a pool before a file of which page i is bytesOf(i), all lasting.
func stand(t *testing.T, pages, frames int) *bench {
	t.Helper()
	d, e := dev.New(5 + 4*pages)
	if e != api.OK {
		t.Fatal(e)
	}
	f, e := file.Open(d, 0, pages)
	if e != api.OK {
		t.Fatal(e)
	}
	for i := range pages {
		if e := f.Write(i, bytesOf(i)); e != api.OK {
			t.Fatal(i, e)
		}
	}
	b := &bench{t: t, d: d, f: f}
	b.p = b.pool(frames)
	return b
}

func (b *bench) pool(frames int) *pool.Pool {
	b.t.Helper()
	p, e := pool.New(b.f, frames, func(lsn int) api.Errno {
		b.forced = append(b.forced, lsn)
		if b.during != nil {
			b.during(lsn)
		}
		return b.refuse
	})
	if e != api.OK || p == nil {
		b.t.Fatalf("New(f, %d, force) = %v, %v", frames, p, e)
	}
	return p
}

// bytesOf makes a page of which no two versions are the same.
func bytesOf(version int) []byte {
	b := make([]byte, whole)
	for i := range b {
		b[i] = byte(version>>(i%4*8)*31 + i*7 + i/128*3 + 1)
	}
	return b
}

func want(t *testing.T, what string, got, want any) {
	t.Helper()
	if got != want {
		t.Fatalf("%s: got %v, want %v", what, got, want)
	}
}

// get wants page n to be that version.
func (b *bench) get(n, version int) {
	b.t.Helper()
	got, e := b.p.Get(n)
	if e != api.OK || !bytes.Equal(got, bytesOf(version)) {
		b.t.Fatalf("Get(%d): not version %d; %v, %d bytes", n, version, e, len(got))
	}
}

// fails wants Get(n) to answer that error, and nothing beside it.
func (b *bench) fails(n int, want api.Errno) {
	b.t.Helper()
	if got, e := b.p.Get(n); e != want || len(got) != 0 {
		b.t.Fatalf("Get(%d) = %d bytes, %v; want none, %v", n, len(got), e, want)
	}
}

func (b *bench) put(n, version, lsn int) {
	b.t.Helper()
	want(b.t, "Put", b.p.Put(n, bytesOf(version), lsn), api.OK)
}

// held wants just these pages in memory, whatever their order.
func (b *bench) held(pages ...int) {
	b.t.Helper()
	var l []int
	for n := range b.f.Pages() {
		if b.p.Has(n) {
			l = append(l, n)
		}
	}
	slices.Sort(pages)
	if !slices.Equal(l, pages) {
		b.t.Fatalf("in memory are %v, want %v", l, pages)
	}
}

func (b *bench) dirty(want ...api.Dirty) {
	b.t.Helper()
	if got := b.p.Dirty(); !slices.Equal(got, want) {
		b.t.Fatalf("Dirty = %v, want %v", got, want)
	}
}

// counts wants that many writes, and force asked for those LSNs since it was last looked at.
func (b *bench) counts(writes int, forced ...int) {
	b.t.Helper()
	if got := b.p.Writes(); got != writes || !slices.Equal(b.forced, forced) {
		b.t.Fatalf("%d writes, forced %v; want %d, %v", got, b.forced, writes, forced)
	}
	b.forced = nil
}

// onFile wants the file to hold that version of page n.
func (b *bench) onFile(n, version int) {
	b.t.Helper()
	got, e := b.f.Read(n)
	if e != api.OK || !bytes.Equal(got, bytesOf(version)) {
		b.t.Fatalf("the file's page %d is not version %d; %v", n, version, e)
	}
}

// leave wants the pages to leave in that order, when others are brought in that nobody has asked for (from page from on).
func (b *bench) leave(from int, pages ...int) {
	b.t.Helper()
	for i, n := range pages {
		if !b.p.Has(n) {
			b.t.Fatalf("page %d has left ahead of its turn (%d)", n, i)
		}
		if _, e := b.p.Get(from + i); e != api.OK {
			b.t.Fatal(from+i, e)
		}
		if b.p.Has(n) || !b.p.Has(from+i) {
			b.t.Fatalf("page %d did not leave for page %d", n, from+i)
		}
	}
}

func ok(int) api.Errno { return api.OK }

func TestExamples(t *testing.T) { // 5.2, 5.4, 5.5
	b := stand(t, 3, 1)
	b.put(0, 50, 5)
	b.get(1, 1)
	b.counts(1, 5)
	b.get(0, 50)
	b.dirty()
}

func TestNew(t *testing.T) { // 5.1
	b := stand(t, 70, 1)
	for _, frames := range []int{math.MinInt, -1, 0, 65, 66, 1 << 40, math.MaxInt} {
		if p, e := pool.New(b.f, frames, ok); p != nil || e != api.ErrArg {
			t.Errorf("New(f, %d, ok) = %v, %v", frames, p, e)
		}
	}
	if p, e := pool.New(nil, 1, ok); p != nil || e != api.ErrArg {
		t.Errorf("New(nil, 1, ok) = %v, %v", p, e)
	}
	if p, e := pool.New(b.f, 1, nil); p != nil || e != api.ErrArg {
		t.Errorf("New(f, 1, nil) = %v, %v", p, e)
	}
	calls := b.d.Calls()
	for _, frames := range []int{1, 2, 63, 64} {
		b.p = b.pool(frames)
		b.held()
		b.dirty()
		b.counts(0)
		want(t, "calls of the device", b.d.Calls(), calls)
	}
}

// TestFirstHand: the hand of a new pool stands at frame 0, which the first page got.
func TestFirstHand(t *testing.T) { // 5.1, 5.4
	for _, frames := range []int{1, 2, 3, 64} {
		b := stand(t, 3*frames, frames)
		var first []int
		for i := range frames {
			b.get(i, i)
			first = append(first, i)
		}
		b.held(first...)
		b.leave(frames, first...)
		for i := range first {
			first[i] += frames
		}
		b.leave(2*frames, first...)
		b.counts(0)
	}
}

// TestGreatest: as many pages as there may be are in memory at once, and not one more.
func TestGreatest(t *testing.T) { // 5.1, 5.2, 5.5
	b := stand(t, 66, 64)
	var all []api.Dirty
	for i := range 64 {
		b.put(63-i, 100+i, 1+i)
		all = append(all, api.Dirty{Page: i, LSN: 64 - i})
	}
	b.dirty(all...)
	b.counts(0)
	calls := b.d.Calls()
	for i := range 64 {
		b.get(63-i, 100+i)
	}
	want(t, "calls of the device", b.d.Calls(), calls)
	b.get(64, 64)
	b.counts(1, 1)
	if b.p.Has(63) {
		t.Error("page 63 was the first to come, and stays")
	}
	b.onFile(63, 100)
	b.dirty(all[:63]...)
	b.leave(65, 62)
	b.counts(2, 2)
}

func TestGet(t *testing.T) { // 5.2
	b := stand(t, 4, 2)
	calls := b.d.Calls()
	b.get(3, 3)
	want(t, "calls of a Get that reads", b.d.Calls(), calls+reads)
	for range 3 {
		b.get(3, 3)
	}
	want(t, "calls of a Get that need not", b.d.Calls(), calls+reads)
	b.dirty()
	b.put(3, 50, 9)
	b.get(3, 50)
	want(t, "calls of a Put", b.d.Calls(), calls+reads)
	b.onFile(3, 3)
	b.dirty(api.Dirty{Page: 3, LSN: 9})
	b.counts(0)
}

// TestGetKeeps: a page in memory is told as it is there, whatever the file holds by now.
func TestGetKeeps(t *testing.T) { // 5.2, 5.3
	b := stand(t, 2, 1)
	b.get(0, 0)
	want(t, "Write", b.f.Write(0, bytesOf(60)), api.OK)
	b.get(0, 0)
	want(t, "Evict", b.p.Evict(0), api.OK)
	b.get(0, 60)
	b.counts(0)
}

func TestPutDoesNotRead(t *testing.T) { // 5.2
	b := stand(t, 3, 2)
	calls := b.d.Calls()
	b.put(0, 50, 1)
	b.put(2, 51, 2)
	want(t, "calls of the device", b.d.Calls(), calls)
	b.put(1, 52, 3)
	want(t, "calls of a Put that needs a place", b.d.Calls(), calls+steps)
	b.held(1, 2)
	b.counts(1, 1)
}

func TestLSNs(t *testing.T) { // 5.1, 5.2, 5.4, 5.5
	for _, c := range []struct {
		lsns        []int
		first, last int
	}{
		{[]int{1}, 1, 1},
		{[]int{7, 9}, 7, 9},
		{[]int{9, 7}, 9, 7},
		{[]int{5, 5}, 5, 5},
		{[]int{4, 800, 2, 30}, 4, 30},
		{[]int{math.MaxInt, 1}, math.MaxInt, 1},
		{[]int{1, math.MaxInt}, 1, math.MaxInt},
	} {
		for _, asked := range []bool{false, true} {
			b := stand(t, 2, 1)
			if asked {
				b.get(1, 1)
			}
			for i, lsn := range c.lsns {
				b.put(1, 50+i, lsn)
				b.get(1, 50+i)
				b.dirty(api.Dirty{Page: 1, LSN: c.first})
			}
			want(t, "Evict", b.p.Evict(1), api.OK)
			b.counts(1, c.last)
			b.dirty()
			b.put(1, 90, 6)
			b.dirty(api.Dirty{Page: 1, LSN: 6})
			b.get(0, 0)
			b.counts(2, 6)
		}
	}
}

// TestWrongPuts: each is refused, and changes nothing, whether the page is in memory or not.
func TestWrongPuts(t *testing.T) { // 5.2
	b := stand(t, 9, 2)
	b.put(0, 50, 5)
	b.get(1, 1)
	b.get(2, 2) // page 0 has left: 1 has lost its mark, 2 has one, the hand stands at 1
	b.put(1, 51, 7)
	b.counts(1, 5)
	calls := b.d.Calls()
	for _, n := range []int{math.MinInt, -9, -1, 9, 10, 1 << 40, math.MaxInt} {
		want(t, "Put out of bounds", b.p.Put(n, bytesOf(1), 5), api.ErrArg)
		want(t, "Put wrong in all", b.p.Put(n, nil, 0), api.ErrArg)
		want(t, "Has", b.p.Has(n), false)
	}
	for _, n := range []int{1, 2, 8} {
		for _, size := range []int{0, 1, 504, 511, 513, 1024} {
			want(t, "Put of another length", b.p.Put(n, make([]byte, size), 5), api.ErrArg)
		}
		want(t, "Put of nil", b.p.Put(n, nil, 5), api.ErrArg)
		for _, lsn := range []int{math.MinInt, -5, -1, 0} {
			want(t, "Put of a low LSN", b.p.Put(n, bytesOf(1), lsn), api.ErrArg)
		}
	}
	want(t, "calls of the device", b.d.Calls(), calls)
	b.held(1, 2)
	b.dirty(api.Dirty{Page: 1, LSN: 7})
	b.get(1, 51)
	b.counts(1)
	b.leave(3, 1, 2)
	b.counts(2, 7)
}

// TestWrongPutMarksNothing: a page that a wrong Put named is not marked as asked.
func TestWrongPutMarksNothing(t *testing.T) { // 5.2
	b := stand(t, 8, 3)
	b.get(0, 0)
	b.get(1, 1)
	b.get(2, 2)
	b.get(3, 3) // page 0 has left; 1 and 2 have no marks; the hand stands at 1
	want(t, "Put", b.p.Put(1, nil, 5), api.ErrArg)
	want(t, "Put", b.p.Put(1, bytesOf(1), 0), api.ErrArg)
	b.leave(4, 1, 2, 3)
}

func TestGetOutOfBounds(t *testing.T) { // 5.2, 5.7
	b := stand(t, 5, 2)
	b.put(0, 50, 5)
	b.put(1, 51, 6)
	b.refuse = api.ErrFull
	calls := b.d.Calls()
	for _, n := range []int{math.MinInt, -1, 5, 6, 1 << 40, math.MaxInt} {
		b.fails(n, api.ErrArg)
		want(t, "Has", b.p.Has(n), false)
		want(t, "Evict", b.p.Evict(n), api.OK)
	}
	want(t, "calls of the device", b.d.Calls(), calls)
	b.counts(0)
	b.held(0, 1)
	b.refuse = api.OK
	b.get(2, 2)
	b.counts(1, 5)
}

// TestReadGoesFirst: a page that is to come is read ahead of another's leaving; when that fails, nothing has changed, not even marks.
func TestReadGoesFirst(t *testing.T) { // 5.2, 5.4
	b := stand(t, 9, 2)
	b.put(0, 50, 5)
	b.put(1, 51, 6)
	calls := b.d.Calls()
	b.during = func(int) {
		want(t, "calls of the device when force is asked", b.d.Calls(), calls+reads)
		b.held(0, 1)
	}
	b.get(2, 2)
	b.during = nil
	b.counts(1, 5)
	b.get(2, 2)     // frame 0 is marked, frame 1 is not, and the hand stands there
	b.put(1, 52, 7) // now both are
	b.d.Fuse(0)
	want(t, "Sync", b.d.Sync(), api.ErrDead)
	b.fails(3, api.ErrDead)
	b.fails(1e6, api.ErrArg)
	b.counts(1)
	b.get(1, 52)
	b.get(2, 2)
	b.d.Crash(nil)
	b.leave(4, 1, 2)
	b.counts(2, 7)
}

func TestEvict(t *testing.T) { // 5.3
	b := stand(t, 9, 3)
	want(t, "Evict of an empty pool", b.p.Evict(0), api.OK)
	b.get(0, 0)
	b.put(1, 51, 6)
	b.put(1, 52, 8)
	b.put(2, 53, 7)
	calls := b.d.Calls()
	want(t, "Evict of a page that is not there", b.p.Evict(5), api.OK)
	want(t, "Evict of a clean one", b.p.Evict(0), api.OK)
	want(t, "calls of the device", b.d.Calls(), calls)
	b.counts(0)
	b.held(1, 2)
	want(t, "Evict of a dirty one", b.p.Evict(1), api.OK)
	want(t, "calls of the device", b.d.Calls(), calls+steps)
	b.counts(1, 8)
	b.held(2)
	b.onFile(1, 52)
	b.onFile(2, 2)
	b.dirty(api.Dirty{Page: 2, LSN: 7})
	want(t, "Evict once more", b.p.Evict(1), api.OK)
	b.counts(1)
	b.get(1, 52)
	b.dirty(api.Dirty{Page: 2, LSN: 7})
}

// TestEmptyOnesFirst: the first empty frame by its number is taken ahead of all others, and the hand stays where it is.
func TestEmptyOnesFirst(t *testing.T) { // 5.3, 5.4
	b := stand(t, 20, 4)
	for n := range 4 {
		b.get(n, n)
	}
	b.get(4, 4) // in frame 0; the others have no marks; the hand stands at 1
	want(t, "Evict", b.p.Evict(3), api.OK)
	want(t, "Evict", b.p.Evict(1), api.OK)
	b.get(5, 5) // in frame 1
	b.get(6, 6) // in frame 3
	b.held(2, 4, 5, 6)
	b.leave(7, 2)          // frame 1 loses its mark
	b.leave(8, 5)          // frames 3 and 0 lose theirs
	b.leave(9, 6, 4, 7, 8) // frames 2 and 1 lose theirs
}

// TestEvictLeavesMarks: the hand and the other pages' marks stay.
func TestEvictLeavesMarks(t *testing.T) { // 5.3
	b := stand(t, 20, 3)
	for n := range 3 {
		b.get(n, n)
	}
	b.get(3, 3) // in frame 0; the hand stands at 1
	b.get(2, 2)
	want(t, "Evict", b.p.Evict(3), api.OK)
	b.put(4, 54, 3)
	b.leave(5, 1, 2, 4)
	b.counts(1, 3)
}

// TestClock: who was asked since the hand came by is passed over once.
func TestClock(t *testing.T) { // 5.2, 5.4
	asks := map[string]func(b *bench, n int){
		"Get": func(b *bench, n int) { b.get(n, n) },
		"Put": func(b *bench, n int) { b.put(n, n, 3) },
		"Has": func(b *bench, n int) { want(b.t, "Has", b.p.Has(n), true) },
		"all that is no asking": func(b *bench, n int) {
			b.p.Dirty()
			b.p.Writes()
			b.p.Put(n, nil, 3)
		},
	}
	for name, ask := range asks {
		b := stand(t, 20, 3)
		b.get(0, 0)
		b.get(1, 1)
		b.get(2, 2)
		b.get(3, 3) // in frame 0; 1 and 2 have no marks; the hand stands at 1
		ask(b, 1)
		if name == "Get" || name == "Put" {
			b.leave(4, 2, 1, 3) // page 3 has its mark from its coming, page 1 has lost the one it got
		} else {
			b.leave(4, 1, 2, 3)
		}
	}
}

// TestForceFails: all stays but the marks and the hand, which stands behind the page that could not leave.
func TestForceFails(t *testing.T) { // 5.4
	for _, refuse := range []api.Errno{api.ErrFull, api.ErrDead, api.ErrArg, -4, 12345} {
		b := stand(t, 20, 2)
		b.put(0, 50, 5)
		b.put(0, 51, 8)
		b.put(1, 52, 6)
		calls := b.d.Calls()
		b.refuse = refuse
		want(t, "Evict", b.p.Evict(0), refuse)
		want(t, "Evict", b.p.Evict(1), refuse)
		b.counts(0, 8, 6)
		want(t, "Put", b.p.Put(2, bytesOf(2), 9), refuse) // both marks go, frame 0 is taken
		b.counts(0, 8)
		want(t, "calls of the device", b.d.Calls(), calls)
		b.held(0, 1)
		b.dirty(api.Dirty{Page: 0, LSN: 5}, api.Dirty{Page: 1, LSN: 6})
		b.fails(3, refuse) // the hand stands at 1
		b.counts(0, 6)
		b.fails(3, refuse)
		b.counts(0, 8)
		want(t, "calls of the device", b.d.Calls(), calls+2*reads)
		b.held(0, 1)
		b.refuse = api.OK
		b.get(3, 3)
		b.counts(1, 6)
		b.held(0, 3)
		b.get(0, 51)
		b.onFile(0, 0)
		b.onFile(1, 52)
		b.dirty(api.Dirty{Page: 0, LSN: 5})
	}
}

// TestForceFailsForOne: a clean page goes instead of the one that can't be written, when the hand comes to it.
func TestForceFailsForOne(t *testing.T) { // 5.4
	b := stand(t, 20, 3)
	b.get(0, 0)
	b.put(1, 51, 7)
	b.get(2, 2)
	b.refuse = api.ErrFull
	b.leave(3, 0)
	b.fails(4, api.ErrFull)
	b.counts(0, 7)
	b.held(1, 2, 3)
	b.leave(4, 2)
	b.counts(0)
	b.fails(5, api.ErrFull) // frame 0, which page 3 is in, loses its mark; frame 1 is stopped at again
	b.counts(0, 7)
	b.leave(5, 3)
	want(t, "Put of one that is there", b.p.Put(1, bytesOf(60), 9), api.OK)
	b.get(1, 60)
	b.dirty(api.Dirty{Page: 1, LSN: 7})
	b.refuse = api.OK
	want(t, "Evict", b.p.Evict(1), api.OK)
	b.counts(1, 9)
	b.onFile(1, 60)
}

// TestForceGoesAhead: while force runs, the file still has the old page, and the pool has the new one.
func TestForceGoesAhead(t *testing.T) { // 5.4, 5.6
	b := stand(t, 4, 1)
	ways := []func(n int){
		func(int) { b.get(3, 3) },
		func(int) { b.put(3, 3, 1) },
		func(n int) { want(t, "Evict", b.p.Evict(n), api.OK) },
	}
	writes, lsn := 0, 10
	for _, way := range ways {
		for n := range 3 {
			lsn++
			want(t, "Evict", b.p.Evict(3), api.OK)
			writes, b.forced = b.p.Writes(), nil
			b.put(n, lsn, lsn)
			old, _ := b.f.Read(n)
			b.during = func(asked int) {
				want(t, "force", asked, lsn)
				now, _ := b.f.Read(n)
				want(t, "the page is the old one", bytes.Equal(now, old), true)
				b.held(n)
				b.dirty(api.Dirty{Page: n, LSN: lsn})
				want(t, "Writes", b.p.Writes(), writes)
				want(t, "what waits at the device", b.d.Pending(), 0)
			}
			way(n)
			b.during = nil
			b.counts(writes+1, lsn)
			b.onFile(n, lsn)
			want(t, "the page has left", b.p.Has(n), false)
		}
	}
}

func TestDirtyByPage(t *testing.T) { // 5.5
	b := stand(t, 40, 30)
	b.dirty()
	for i := range 30 {
		n := i * 17 % 30
		if n%3 == 0 {
			b.get(n, n)
		} else {
			b.put(n, n, 1000-i)
		}
	}
	var l []api.Dirty
	for i := range 30 {
		if n := i * 17 % 30; n%3 != 0 {
			l = append(l, api.Dirty{Page: n, LSN: 1000 - i})
		}
	}
	slices.SortFunc(l, func(x, y api.Dirty) int { return x.Page - y.Page })
	b.dirty(l...)
	b.counts(0)
}

// TestSameBytes: a Put of what stands there already makes the page dirty, too.
func TestSameBytes(t *testing.T) { // 5.2
	b := stand(t, 3, 1)
	b.get(1, 1)
	b.put(1, 1, 4)
	b.dirty(api.Dirty{Page: 1, LSN: 4})
	b.get(0, 0)
	b.counts(1, 4)
}

// smear writes over a list, and over the spare room behind it.
func smear(b []byte) {
	b = b[:cap(b)]
	for i := range b {
		b[i] ^= 0xFF
	}
}

func TestMemory(t *testing.T) { // 5.7
	b := stand(t, 3, 1)
	first, _ := b.p.Get(1) // read from the file
	smear(first)
	b.get(1, 1)
	again, _ := b.p.Get(1) // told from memory
	smear(again)
	b.get(1, 1)

	spare := make([]byte, whole, 4*whole)
	for _, l := range [][]byte{bytesOf(50), append(spare[:0], bytesOf(51)...)} {
		was := bytes.Clone(l[:cap(l)])
		want(t, "Put", b.p.Put(1, l, 7), api.OK)
		want(t, "what is handed in stays", bytes.Equal(l[:cap(l)], was), true)
		smear(l)
		got, e := b.p.Get(1)
		if e != api.OK || !bytes.Equal(got, was[:whole]) {
			t.Fatal("Put has kept what was handed in", e)
		}
		smear(got)
		want(t, "Evict", b.p.Evict(1), api.OK)
		if got, e := b.f.Read(1); e != api.OK || !bytes.Equal(got, was[:whole]) {
			t.Fatal("what was told is still the pool's", e)
		}
	}

	b.p = b.pool(2)
	b.put(0, 50, 3)
	b.put(2, 52, 4)
	l := b.p.Dirty()
	l = l[:cap(l)]
	for i := range l {
		l[i] = api.Dirty{Page: 77, LSN: 77}
	}
	b.dirty(api.Dirty{Page: 0, LSN: 3}, api.Dirty{Page: 2, LSN: 4})
}

// TestTwoAnswers: no two answers share memory, nor an answer and what is handed in behind it.
func TestTwoAnswers(t *testing.T) { // 5.7
	b := stand(t, 3, 2)
	for range 2 {
		x, _ := b.p.Get(0)
		y, _ := b.p.Get(0)
		smear(x)
		want(t, "the second answer stays", bytes.Equal(y, bytesOf(0)), true)
	}
	x, _ := b.p.Get(1)
	b.put(1, 60, 5)
	b.put(1, 61, 6)
	want(t, "an answer stays as it was", bytes.Equal(x, bytesOf(1)), true)
	y, _ := b.p.Get(1)
	want(t, "Put of an answer", b.p.Put(2, y, 7), api.OK)
	smear(y)
	b.get(2, 61)
	b.get(1, 61)
}
