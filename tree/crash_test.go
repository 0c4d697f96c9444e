package tree_test

import (
	"maps"
	"math/rand"
	"slices"
	"strconv"
	"strings"
	"testing"

	"palimpsest/api"
	"palimpsest/dev"
	"palimpsest/store"
	"palimpsest/tree"
)

// books is what trees hold, by their roots.
type books map[int]pairs

func (b books) clone() books {
	c := books{}
	for root, m := range b {
		c[root] = maps.Clone(m)
	}
	return c
}

// roots tells the trees in an order that stays.
func (b books) roots() []int {
	return slices.Sorted(maps.Keys(b))
}

// clerk is one who uses trees, and keeps books of what the commits made them.
type clerk struct {
	t       *testing.T
	r       *rand.Rand
	s       *store.Store
	made    []books // behind each number of commits
	now     books
	longest int // bytes of a key
}

// tally holds that the trees of a store are just these, and that every page is one that one of them has, or free (13.4, W13).
func tally(t *testing.T, s *store.Store, b books) {
	t.Helper()
	var had []int
	for _, root := range b.roots() {
		had = append(had, holds(t, s, root, b[root]).pages...)
	}
	taken(t, s, had...)
	if n := len(slices.Compact(slices.Sorted(slices.Values(had)))); n != len(had) {
		t.Fatal("a page is had twice: ", had)
	}
}

// step does one thing to a tree, or to all of it.
func (c *clerk) step(x int) api.Errno {
	l := c.now.roots()
	n := c.r.Intn(24)
	if len(l) < 2 || n == 0 && len(l) < 3 {
		root, e := tree.Make(c.s, x)
		if e == api.OK {
			c.now[root] = pairs{}
		}
		return e
	}
	root := l[c.r.Intn(len(l))]
	if n == 1 {
		delete(c.now, root)
		return tree.Drop(c.s, x, root)
	}
	k := someKey(c.r, c.longest)
	if has := c.now[root].keys(); len(has) > 0 && c.r.Intn(2) == 0 {
		k = has[c.r.Intn(len(has))]
	}
	if n < 15 {
		v := strings.Repeat("v", c.r.Intn(101))
		c.now[root][k] = v
		return tree.Put(c.s, x, root, []byte(k), []byte(v))
	}
	_, is := c.now[root][k]
	delete(c.now[root], k)
	ok, e := tree.Del(c.s, x, root, []byte(k))
	if e == api.OK && ok != is {
		c.t.Fatalf("Del is %v, want %v", ok, is)
	}
	return e
}

// work does some steps in a transaction and ends it, and tells whether the device lasted. What was refused for room is gone back from.
func (c *clerk) work() bool {
	c.t.Helper()
	x, e := c.s.Begin()
	if e != api.OK {
		return c.lasts(e)
	}
	was := c.now.clone()
	for range 1 + c.r.Intn(5) {
		mark, e := c.s.Save(x)
		before := c.now.clone()
		if e == api.OK {
			e = c.step(x)
		}
		if e == api.ErrFull {
			c.now = before
			e = c.s.Back(x, mark)
		}
		if !c.lasts(e) {
			return false
		}
	}
	if c.r.Intn(5) == 0 {
		c.now = was
		return c.lasts(c.s.Rollback(x))
	}
	c.made = append(c.made, c.now.clone())
	return c.lasts(c.s.Commit(x))
}

func (c *clerk) lasts(e api.Errno) bool {
	c.t.Helper()
	if e != api.OK && e != api.ErrDead {
		c.t.Fatal("answered ", e)
	}
	return e == api.OK
}

// play works on a device until it fails, or for so many transactions: the books behind each number of commits.
func play(t *testing.T, d *dev.Dev, seed, frames, n int) ([]books, bool) {
	t.Helper()
	s, e := store.Open(d, frames)
	c := &clerk{t: t, r: rand.New(rand.NewSource(int64(seed))), s: s, made: []books{{}, {}}, now: books{}, longest: 100}
	if !c.lasts(e) {
		return c.made, false
	}
	for range n {
		if !c.work() {
			return c.made, false
		}
		if !d.Dead() && c.r.Intn(4) == 0 && !c.lasts(s.Evict(c.r.Intn(s.Pages()))) {
			return c.made, false
		}
	}
	d.Fuse(-1)
	tally(t, s, c.now)
	return c.made, true
}

// kept tells what a crash keeps: nothing, all, or any part.
func kept(r *rand.Rand, way, n int) []bool {
	l := make([]bool, n)
	for i := range l {
		l[i] = way == 1 || way == 2 && r.Intn(2) == 0
	}
	return l
}

// rises opens a device behind a crash: just what the commits made is there, and one can go on with it.
func rises(t *testing.T, d *dev.Dev, made []books, frames int) {
	t.Helper()
	s := again(t, d, frames)
	n := s.Commits()
	if n < len(made)-2 || n >= len(made) {
		t.Fatalf("%d commits, %d were made", n, len(made)-1)
	}
	tally(t, s, made[n])
	c := &clerk{t: t, r: rand.New(rand.NewSource(int64(n))), s: s, now: made[n].clone(), longest: 100}
	for range 3 {
		c.work()
	}
	tally(t, s, c.now)
}

// 13.4: the device fails at each write of a play, a crash keeps nothing, all or any part of what was not synced, and the Open behind it may fail, too.
func TestCrash(t *testing.T) {
	for seed := range 4 {
		t.Run(strconv.Itoa(seed), func(t *testing.T) {
			t.Parallel()
			frames := 1 + seed%3
			s, base := ready(t, []int{256, 320, 400}[seed%3], frames)
			if s.Commits() != 1 {
				t.Fatal(s.Commits(), " commits")
			}
			r := rand.New(rand.NewSource(int64(seed)))
			k := 0
			for lasted := false; !lasted; k++ {
				d := base.Copy()
				d.Fuse(k)
				var made []books
				if made, lasted = play(t, d, seed, frames, 10); lasted {
					made = append(made, nil) // no commit was under way
				}
				for way := range 3 {
					again := d.Copy()
					again.Crash(kept(r, way, again.Pending()))
					for range r.Intn(3) {
						again.Fuse(r.Intn(40))
						store.Open(again, frames)
						again.Crash(kept(r, way, again.Pending()))
					}
					rises(t, again, made, frames)
				}
			}
			if k < 100 {
				t.Fatal("only ", k, " writes")
			}
		})
	}
}

// 13.4: a commit, a crash in the midst of a transaction whose pages were driven out, and a new start: nothing of it is left.
func TestCrashInTheMidst(t *testing.T) {
	for way := range 3 {
		s, d := ready(t, 4096, 4)
		x := begin(t, s)
		root := makes(t, s, x, 2)
		want := pairs{}
		for i := range 14 {
			want[spelt(3*i)] = "v"
			puts(t, s, x, root, spelt(3*i), "v")
		}
		fine(t, s.Commit(x))
		committed := holds(t, s, root, want)
		x = begin(t, s)
		for i := range 14 {
			puts(t, s, x, root, spelt(3*i+1), strings.Repeat("w", 100))
		}
		for i := range 6 {
			dels(t, s, x, root, spelt(3*i), true)
		}
		puts(t, s, x, makes(t, s, x, slices.Max(mustLook(t, s, root).pages)+1), "other", "tree")
		if way > 0 {
			for p := range 60 {
				fine(t, s.Evict(p))
			}
		}
		d.Crash(kept(nil, way%2, d.Pending()))
		s = again(t, d, 2)
		if l := holds(t, s, root, want); !slices.Equal(l.pages, committed.pages) || !sameLevels(l.levels, committed.levels) {
			t.Fatal("it is not what it was")
		}
		taken(t, s, committed.pages...)
		x = begin(t, s)
		fine(t, tree.Drop(s, x, root))
		fine(t, s.Commit(x))
		d.Crash(nil)
		taken(t, again(t, d, 1))
	}
}
