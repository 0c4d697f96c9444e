package tree_test

import (
	"fmt"
	"maps"
	"math/rand"
	"slices"
	"strconv"
	"strings"
	"testing"

	"palimpsest/store"
)

// someKey tells a key of few unlike bytes, so that many begin alike, of any length up to a longest.
func someKey(r *rand.Rand, longest int) string {
	n := 1 + r.Intn(longest)
	if r.Intn(3) == 0 {
		n = longest
	}
	b := make([]byte, n)
	for i := range b {
		b[i] = "\x00ak\xFF"[r.Intn(4)]
	}
	if r.Intn(2) == 0 { // a long beginning that others have, too
		copy(b, strings.Repeat("k", 90))
	}
	return string(b)
}

// fence tells some key that is above left and at most right.
func fence(r *rand.Rand, left, right string) string {
	var l []string
	for i := 1; i <= len(right); i++ {
		if right[:i] > left {
			l = append(l, right[:i])
		}
	}
	for i := len(left); i < 100; i++ {
		if k := left + strings.Repeat("\x00", i-len(left)+1); k <= right {
			l = append(l, k)
		}
	}
	if r.Intn(2) == 0 { // the longest are those that leave the least room
		return slices.MaxFunc(l, func(a, b string) int { return len(a) - len(b) })
	}
	return l[r.Intn(len(l))]
}

// first and last tell the ends of a plan's keys.
func (p *plan) first() string {
	return p.leaves()[0].keys[0]
}

func (p *plan) last() string {
	l := p.leaves()
	keys := l[len(l)-1].keys
	return keys[len(keys)-1]
}

// randomPlan tells a tree that no Put made: its nodes are cut wherever it may be, and have few keys or as many as a page holds.
func randomPlan(r *rand.Rand, n, longest int) plan {
	had := map[string]struct{}{}
	for range n {
		had[someKey(r, longest)] = struct{}{}
	}
	var row []plan
	keys := slices.Sorted(maps.Keys(had))
	for len(keys) > 0 {
		c, size, most := 0, 7, 1+r.Intn(8)
		for c < len(keys) && c < most && size+4+len(keys[c])+len(value(keys[c])) <= 504 {
			size += 4 + len(keys[c]) + len(value(keys[c]))
			c++
		}
		row, keys = append(row, leafPlan(keys[:c]...)), keys[c:]
	}
	for len(row) > 1 {
		var up []plan
		for len(row) > 0 {
			p := innerPlan(nil, row[0])
			row = row[1:]
			size, most := 11, 1+r.Intn(9)
			for len(row) > 0 && (len(p.keys) < most || len(row) == 1) {
				last := p.kids[len(p.kids)-1]
				k := fence(r, last.last(), row[0].first())
				if size+6+len(k) > 504 {
					break
				}
				size += 6 + len(k)
				p.keys, p.kids, row = append(p.keys, k), append(p.kids, row[0]), row[1:]
			}
			up = append(up, p)
		}
		if last := len(up) - 1; len(up[last].keys) == 0 { // one is left over: it gets a kid of the one ahead of it
			kids := up[last-1].kids
			kid := kids[len(kids)-1]
			up[last] = innerPlan([]string{fence(r, kid.last(), up[last].kids[0].first())}, kid, up[last].kids[0])
			up[last-1].kids = kids[:len(kids)-1]
			up[last-1].keys = up[last-1].keys[:len(kids)-2]
			if len(up[last-1].keys) == 0 {
				return leafPlan(keys...) // too few: an empty tree
			}
		}
		row = up
	}
	return row[0]
}

// 13.2, 13.4: trees of any shape that 13.2 allows stay trees, whatever is put and deleted, until nothing is left.
func TestAnyShape(t *testing.T) {
	splits := 0
	for seed := range 64 {
		t.Run(strconv.Itoa(seed), func(t *testing.T) {
			r := rand.New(rand.NewSource(int64(seed)))
			s, _ := ready(t, 4096, 64)
			longest := []int{3, 12, 100, 100}[seed%4]
			p := randomPlan(r, 1+r.Intn(70), longest)
			root, want := planted(t, s, &p)
			holds(t, s, root, want)
			for len(want) > 0 {
				k, before := someKey(r, longest), len(mustLook(t, s, root).levels)
				if l := want.keys(); r.Intn(8) > 1 {
					k = l[r.Intn(len(l))]
				}
				_, is := want[k]
				if v := strings.Repeat("w", r.Intn(101)); r.Intn(4) == 0 {
					change(t, s, func(x int) { puts(t, s, x, root, k, v) })
					want[k] = v
				} else {
					change(t, s, func(x int) { dels(t, s, x, root, k, is) })
					delete(want, k)
				}
				l := holds(t, s, root, want)
				taken(t, s, l.pages...)
				if len(l.levels) > before {
					splits++
				}
			}
			taken(t, s, root)
		})
	}
	if splits == 0 {
		t.Error("no root was split")
	}
}

func mustLook(t *testing.T, s *store.Store, root int) *look {
	t.Helper()
	l, ok := looked(s, root)
	if !ok {
		t.Fatal("no tree")
	}
	return l
}

// 13.1, 13.4: many steps on some trees, against maps: commits, rollbacks, marks gone back to, pages driven out, new starts.
func TestModel(t *testing.T) {
	for seed := range 12 {
		t.Run(strconv.Itoa(seed), func(t *testing.T) {
			t.Parallel()
			r := rand.New(rand.NewSource(int64(seed)))
			s, d := ready(t, []int{1024, 2048, 4096}[seed%3], 1+r.Intn(8))
			c := &clerk{t: t, r: r, s: s, now: books{}, longest: []int{2, 20, 100}[seed%3]}
			for range 150 {
				if !c.work() {
					t.Fatal("it does not last")
				}
				tally(t, c.s, c.now)
				if r.Intn(10) == 0 {
					d.Crash(kept(r, r.Intn(3), d.Pending()))
					c.s = again(t, d, 1+r.Intn(8))
					tally(t, c.s, c.now)
				}
				if r.Intn(6) == 0 {
					fine(t, c.s.Evict(r.Intn(c.s.Pages())))
				}
				for root, m := range c.now {
					k := someKey(r, c.longest)
					if v, is := m[k]; is {
						gets(t, c.s, root, k, v)
					} else {
						lacks(t, c.s, root, k)
					}
				}
			}
		})
	}
}

// 13.4: keys that are put and deleted at the same rate for long: the pages stay in keeping with what they hold.
func TestLongRun(t *testing.T) {
	r := rand.New(rand.NewSource(9))
	s, _ := ready(t, 4096, 64)
	x := begin(t, s)
	root := makes(t, s, x, 2)
	fine(t, s.Commit(x))
	want := pairs{}
	for i := range 1500 {
		x := begin(t, s)
		k := fmt.Sprintf("%05d", r.Intn(i*10+1)%9000)
		if r.Intn(200) < 200-len(want) {
			want[k] = strings.Repeat("v", r.Intn(40))
			puts(t, s, x, root, k, want[k])
		} else {
			l := want.keys()
			k = l[r.Intn(len(l))]
			dels(t, s, x, root, k, true)
			delete(want, k)
		}
		fine(t, s.Commit(x))
		if i%50 == 49 {
			l := holds(t, s, root, want)
			taken(t, s, l.pages...)
			if n := len(l.pages); n > 4+weight(want)/100 {
				t.Fatalf("%d pages of %d bytes", n, weight(want))
			}
		}
	}
}
