package heap_test

import (
	"cmp"
	"maps"
	"math/rand"
	"slices"
	"strconv"
	"testing"

	"palimpsest/api"
	"palimpsest/dev"
	"palimpsest/heap"
	"palimpsest/space"
	"palimpsest/store"
)

// books is what heaps hold: by their heads, the records under their places.
type books map[int]map[api.RID]string

func (b books) clone() books {
	c := books{}
	for h, l := range b {
		c[h] = maps.Clone(l)
	}
	return c
}

// heads tells the heaps in an order that stays.
func (b books) heads() []int {
	return slices.Sorted(maps.Keys(b))
}

// places tells the places of a heap in an order that stays.
func (b books) places(h int) []api.RID {
	return slices.SortedFunc(maps.Keys(b[h]), func(x, y api.RID) int {
		return cmp.Or(cmp.Compare(x.Page, y.Page), cmp.Compare(x.Slot, y.Slot))
	})
}

// clerk is one who uses heaps, and keeps books of what the commits made them.
type clerk struct {
	t    *testing.T
	r    *rand.Rand
	s    *store.Store
	made []books // behind each number of commits
	now  books
}

// tally holds that the heaps of a store are just these, and that every page is one that one of them has, or free (10.5, W13).
func tally(t *testing.T, s *store.Store, b books) {
	t.Helper()
	had := []int{0}
	for _, h := range b.heads() {
		l, e := heap.Pages(s, h)
		if e != api.OK {
			t.Fatalf("Pages(%d) is %d", h, e)
		}
		had = append(had, l...)
		rids, recs, e := heap.Scan(s, h)
		if e != api.OK || len(rids) != len(b[h]) || len(recs) != len(rids) {
			t.Fatalf("Scan(%d) has %d places, %d records, %d; want %d", h, len(rids), len(recs), e, len(b[h]))
		}
		for i, r := range rids {
			if want, ok := b[h][r]; !ok || string(recs[i]) != want {
				t.Fatalf("heap %d has %v: %q, want %q", h, r, recs[i], want)
			}
		}
	}
	taken(t, s, had...)
	if n := len(slices.Compact(slices.Sorted(slices.Values(had)))); n != len(had) {
		t.Fatal("a page is had twice: ", had)
	}
}

func (c *clerk) some(n int) []byte {
	return filled(byte('a'+c.r.Intn(26)), c.r.Intn(n))
}

// step does one thing to a heap, or to all of it.
func (c *clerk) step(x int) api.Errno {
	l := c.now.heads()
	k := c.r.Intn(20)
	if len(l) < 2 || k == 0 && len(l) < 3 {
		h, e := heap.Make(c.s, x)
		if e == api.OK {
			c.now[h] = map[api.RID]string{}
		}
		return e
	}
	h := l[c.r.Intn(len(l))]
	places := c.now.places(h)
	if k == 1 {
		delete(c.now, h)
		return heap.Drop(c.s, x, h)
	}
	if k < 10 || len(places) == 0 {
		data := c.some(250)
		r, e := heap.Insert(c.s, x, h, data)
		if e == api.OK {
			c.fresh(h, r)
			c.now[h][r] = string(data)
		}
		return e
	}
	r := places[c.r.Intn(len(places))]
	delete(c.now[h], r)
	if k < 14 {
		return heap.Delete(c.s, x, h, r)
	}
	data := c.some(400)
	q, e := heap.Update(c.s, x, h, r, data)
	if e == api.OK {
		c.fresh(h, q)
		c.now[h][q] = string(data)
	}
	return e
}

// fresh holds that no other record stands at a place.
func (c *clerk) fresh(h int, r api.RID) {
	c.t.Helper()
	if _, ok := c.now[h][r]; ok {
		c.t.Fatalf("%v is another one's", r)
	}
}

// work does some steps in a transaction and ends it, and tells whether the device lasted. What was refused for room is gone back from.
func (c *clerk) work() bool {
	c.t.Helper()
	x, e := c.s.Begin()
	if e != api.OK {
		return c.lasts(e)
	}
	was := c.now.clone()
	for range 1 + c.r.Intn(5) {
		mark, e := c.s.Save(x)
		before := c.now.clone()
		if e == api.OK {
			e = c.step(x)
		}
		if e == api.ErrFull {
			c.now = before
			e = c.s.Back(x, mark)
		}
		if !c.lasts(e) {
			return false
		}
	}
	if c.r.Intn(5) == 0 {
		c.now = was
		return c.lasts(c.s.Rollback(x))
	}
	c.made = append(c.made, c.now.clone())
	return c.lasts(c.s.Commit(x))
}

func (c *clerk) lasts(e api.Errno) bool {
	c.t.Helper()
	if e != api.OK && e != api.ErrDead {
		c.t.Fatal("answered ", e)
	}
	return e == api.OK
}

// play works on a device until it fails, or for so many transactions: the books behind each number of commits.
func play(t *testing.T, d *dev.Dev, seed, frames, n int) ([]books, bool) {
	t.Helper()
	s, e := store.Open(d, frames)
	c := &clerk{t: t, r: rand.New(rand.NewSource(int64(seed))), s: s, made: []books{{}, {}}, now: books{}}
	if !c.lasts(e) {
		return c.made, false
	}
	for range n {
		if !c.work() {
			return c.made, false
		}
		if !d.Dead() && c.r.Intn(4) == 0 && !c.lasts(s.Evict(c.r.Intn(s.Pages()))) {
			return c.made, false
		}
	}
	d.Fuse(-1)
	tally(t, s, c.now)
	return c.made, true
}

// kept tells what a crash keeps: nothing, all, or any part.
func kept(r *rand.Rand, way, n int) []bool {
	l := make([]bool, n)
	for i := range l {
		l[i] = way == 1 || way == 2 && r.Intn(2) == 0
	}
	return l
}

// rises opens a device behind a crash: just what the commits made is there, and one can go on with it.
func rises(t *testing.T, d *dev.Dev, made []books, frames int) {
	t.Helper()
	s := again(t, d, frames)
	n := s.Commits()
	if n < len(made)-2 || n >= len(made) {
		t.Fatalf("%d commits, %d were made", n, len(made)-1)
	}
	tally(t, s, made[n])
	c := &clerk{t: t, r: rand.New(rand.NewSource(int64(n))), s: s, now: made[n].clone()}
	for range 3 {
		c.work()
	}
	tally(t, s, c.now)
}

// 10.5: the device fails at each write of a play, a crash keeps nothing, all or any part of what was not synced, and the Open behind it may fail, too.
func TestCrash(t *testing.T) {
	for seed := range 4 {
		t.Run(strconv.Itoa(seed), func(t *testing.T) {
			t.Parallel()
			frames := 1 + seed%3
			s, base := ready(t, []int{256, 320, 400}[seed%3], frames)
			if s.Commits() != 1 {
				t.Fatal(s.Commits(), " commits")
			}
			r := rand.New(rand.NewSource(int64(seed)))
			k := 0
			for lasted := false; !lasted; k++ {
				d := base.Copy()
				d.Fuse(k)
				var made []books
				if made, lasted = play(t, d, seed, frames, 9); lasted {
					made = append(made, nil) // no commit was under way
				}
				for way := range 3 {
					again := d.Copy()
					again.Crash(kept(r, way, again.Pending()))
					for range r.Intn(3) {
						again.Fuse(r.Intn(40))
						store.Open(again, frames)
						again.Crash(kept(r, way, again.Pending()))
					}
					rises(t, again, made, frames)
				}
			}
			if k < 100 {
				t.Fatal("only ", k, " writes")
			}
		})
	}
}

// 10.5: a crash behind commits, with a transaction open whose pages were driven out: nothing of it is left, and places are what they were.
func TestCrashInTheMidst(t *testing.T) {
	for way := range 3 {
		s, d := ready(t, 2048, 2)
		x := begin(t, s)
		h := makes(t, s, x, 1)
		inserts(t, s, x, h, filled('a', 300), at(1, 0))
		inserts(t, s, x, h, filled('b', 300), at(2, 0))
		inserts(t, s, x, h, []byte("c"), at(1, 1))
		fine(t, s.Commit(x))
		x = begin(t, s)
		updates(t, s, x, h, at(1, 1), filled('d', 400), at(3, 0))
		deletes(t, s, x, h, at(1, 0))
		inserts(t, s, x, h, filled('e', 480), at(1, 0))
		updates(t, s, x, h, at(2, 0), nil, at(2, 0))
		g := makes(t, s, x, 4)
		inserts(t, s, x, g, []byte("other"), at(4, 0))
		if way > 0 {
			for p := range 5 {
				fine(t, s.Evict(p))
			}
		}
		d.Crash(kept(nil, way%2, d.Pending()))
		s = again(t, d, 2)
		chained(t, s, h, 1, 2)
		taken(t, s, 0, 1, 2)
		holds(t, s, h, item{at(1, 0), filled('a', 300)}, item{at(1, 1), []byte("c")}, item{at(2, 0), filled('b', 300)})
		if b, e := heap.Get(s, at(3, 0)); len(b) > 0 || e != api.ErrNone {
			t.Errorf("Get is %q, %d", b, e)
		}
		x = begin(t, s)
		fine(t, heap.Drop(s, x, h))
		fine(t, s.Commit(x))
		d.Crash(nil)
		s = again(t, d, 1)
		if n, e := space.Count(s); n != 1 || e != api.OK {
			t.Errorf("Count is %d, %d", n, e)
		}
	}
}
