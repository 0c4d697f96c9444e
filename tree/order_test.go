package tree_test

import (
	"bytes"
	"fmt"
	"math/rand"
	"slices"
	"strings"
	"testing"

	"palimpsest/api"
	"palimpsest/space"
	"palimpsest/store"
	"palimpsest/tree"
)

// orders tells the numbers below n in the orders that keys come in.
func orders(n int) map[string][]int {
	rising := make([]int, n)
	for i := range rising {
		rising[i] = i
	}
	falling := slices.Clone(rising)
	slices.Reverse(falling)
	var inward []int // from both ends, so that the last ones are in the middle
	for i := range n / 2 {
		inward = append(inward, i, n-1-i)
	}
	if n%2 == 1 {
		inward = append(inward, n/2)
	}
	return map[string][]int{"rising": rising, "falling": falling, "any": rand.New(rand.NewSource(int64(n))).Perm(n), "inward": inward}
}

// kinds tells keys with their values of unlike lengths.
func kinds() map[string]func(i int) (string, string) {
	return map[string]func(i int) (string, string){
		"great": func(i int) (string, string) { return spelt(i), strings.Repeat("v", 100) },
		"long keys": func(i int) (string, string) {
			return spelt(i), ""
		},
		"short keys": func(i int) (string, string) { return fmt.Sprintf("%03d", i), strings.Repeat("v", 100) },
		"mixed": func(i int) (string, string) {
			k := fmt.Sprintf("%03d", i)
			if i%7 > 2 {
				return k, ""
			}
			return k + strings.Repeat("k", i*29%98), strings.Repeat("v", i*31%101)
		},
		"few great ones": func(i int) (string, string) {
			k := fmt.Sprintf("%03d", i)
			if i%16 < 13 {
				return k, ""
			}
			return k + strings.Repeat("k", 97), strings.Repeat("v", 100)
		},
	}
}

// change does a call in a transaction, and commits it: each page is told of once.
func change(t *testing.T, s *store.Store, call func(x int)) {
	t.Helper()
	x := begin(t, s)
	once(t, s, told(s, func() { call(x) }))
	fine(t, s.Commit(x))
}

// undone does a call twice and goes back from it, by Back and by Rollback, which make everything what it was.
func undone(t *testing.T, s *store.Store, call func(x int)) {
	t.Helper()
	was := whole(t, s)
	x := begin(t, s)
	mark := save(t, s, x)
	call(x)
	fine(t, s.Back(x, mark))
	if !bytes.Equal(whole(t, s), was) {
		t.Fatal("Back leaves something")
	}
	fine(t, s.Commit(x))
	x = begin(t, s)
	call(x)
	fine(t, s.Rollback(x))
	if !bytes.Equal(whole(t, s), was) {
		t.Fatal("Rollback leaves something")
	}
}

// 13.1, 13.2, 13.4: keys that are put and deleted in all orders, so many that there are up to four levels and more: behind each step the tree holds just what it must, and has just the pages that are taken.
func TestOrders(t *testing.T) {
	for kind, pair := range kinds() {
		n := 100
		for in := range orders(n) {
			if in == "inward" {
				continue
			}
			for out := range orders(n) {
				t.Run(kind+", "+in+", "+out, func(t *testing.T) {
					t.Parallel()
					s, _ := ready(t, 1024, 64)
					x := begin(t, s)
					root := makes(t, s, x, 1)
					fine(t, s.Commit(x))
					want, heights, pages := pairs{}, map[int]struct{}{}, 0
					step := func(i int, come bool) {
						k, v := pair(i)
						call := func(x int) { dels(t, s, x, root, k, true) }
						delete(want, k)
						if come {
							call = func(x int) { puts(t, s, x, root, k, v) }
							want[k] = v
						}
						if i%5 == 0 {
							undone(t, s, call)
						}
						change(t, s, call)
						l := holds(t, s, root, want)
						taken(t, s, l.pages...)
						heights[len(l.levels)] = struct{}{}
						pages = len(l.pages)
					}
					for _, i := range orders(n)[in] {
						step(i, true)
					}
					for _, k := range want.keys() {
						gets(t, s, root, k, want[k])
					}
					if most := 2 * weight(want) / 250; kind != "few great ones" && pages > most+3 {
						t.Errorf("%d pages, of %d bytes", pages, weight(want))
					}
					for _, i := range orders(n)[out] {
						step(i, false)
					}
					if pages != 1 {
						t.Errorf("%d pages of no key", pages)
					}
					if _, four := heights[4]; (kind == "great" || kind == "long keys") && !four || len(heights) < 2 {
						t.Errorf("heights %v", heights)
					}
				})
			}
		}
	}
}

// weight tells how many bytes of leaves pairs need.
func weight(m pairs) int {
	n := 0
	for k, v := range m {
		n += 4 + len(k) + len(v)
	}
	return n
}

// 13.1, W13: Drop frees all pages, of trees of all heights, by one Write for each page of the map; nothing else is touched.
func TestDrop(t *testing.T) {
	for _, n := range []int{0, 1, 4, 15, 70} {
		s, _ := ready(t, 4096, 8)
		x := begin(t, s)
		other := makes(t, s, x, 2)
		puts(t, s, x, other, "a", "1")
		root := makes(t, s, x, 3)
		fine(t, s.Commit(x))
		want := pairs{}
		for i := range n {
			x := begin(t, s)
			want[spelt(i)] = "v"
			puts(t, s, x, root, spelt(i), "v")
			fine(t, s.Commit(x))
		}
		l := holds(t, s, root, want)
		taken(t, s, append(l.pages, other)...)
		still(t, s, func() { refused(t, tree.Drop(s, 99, root), api.ErrNone) })
		x = begin(t, s)
		mark := save(t, s, x)
		log := told(s, func() { fine(t, tree.Drop(s, x, root)) })
		if len(log) != 1 || log[0].Rec.Page != 0 {
			t.Fatalf("the records are %v", log)
		}
		once(t, s, log)
		taken(t, s, other)
		still(t, s, func() { refused(t, tree.Drop(s, x, root), api.ErrArg) }) // space has it that these pages are free
		fine(t, s.Back(x, mark))
		taken(t, s, append(holds(t, s, root, want).pages, other)...)
		fine(t, tree.Drop(s, x, root))
		fine(t, s.Rollback(x))
		taken(t, s, append(holds(t, s, root, want).pages, other)...)
		x = begin(t, s)
		fine(t, tree.Drop(s, x, root))
		fine(t, s.Commit(x))
		taken(t, s, other)
		holds(t, s, other, pairs{"a": "1"})
	}
}

// 13.1: a page that one step needs no more is given back by that step, and another tree can have it.
func TestGivenBackAtOnce(t *testing.T) {
	s, _ := ready(t, 1024, 8)
	x := begin(t, s)
	root := makes(t, s, x, 1)
	for i := range 3 {
		puts(t, s, x, root, spelt(i), strings.Repeat("v", 100))
	}
	if n, e := space.Count(s); n != 4 || e != api.OK {
		t.Fatalf("Count is %d, %d", n, e)
	}
	dels(t, s, x, root, spelt(0), true)
	dels(t, s, x, root, spelt(2), true)
	taken(t, s, root)
	holds(t, s, root, pairs{spelt(1): strings.Repeat("v", 100)})
	makes(t, s, x, 2)
}

// 13.1, W4: many steps of one transaction, gone back from at marks among them.
func TestGoesBack(t *testing.T) {
	r := rand.New(rand.NewSource(3))
	for range 20 {
		s, _ := ready(t, 4096, 4)
		x := begin(t, s)
		root := makes(t, s, x, 2)
		want := pairs{}
		for i := range 12 {
			want[spelt(i)] = "v"
			puts(t, s, x, root, spelt(i), "v")
		}
		fine(t, s.Commit(x))
		x = begin(t, s)
		var marks []int
		var were [][]byte
		for range 25 {
			marks, were = append(marks, save(t, s, x)), append(were, whole(t, s))
			if k := spelt(r.Intn(20)); r.Intn(2) == 0 {
				puts(t, s, x, root, k, strings.Repeat("w", r.Intn(101)))
			} else if _, e := tree.Del(s, x, root, []byte(k)); e != api.OK {
				t.Fatal(e)
			}
		}
		for len(marks) > 0 {
			i := r.Intn(len(marks))
			fine(t, s.Back(x, marks[i]))
			if !bytes.Equal(whole(t, s), were[i]) {
				t.Fatal("Back leaves something")
			}
			marks, were = marks[:i], were[:i]
		}
		fine(t, s.Rollback(x))
		taken(t, s, holds(t, s, root, want).pages...)
	}
}

// 13.3: a store without a free page refuses a Put that needs one; whoever goes back has the tree as it was, and what needs no page is still done.
func TestFullStore(t *testing.T) {
	for _, spare := range []int{0, 1, 2, 5, 9, 14} {
		s, _ := ready(t, 1024, 4)
		x := begin(t, s)
		root := makes(t, s, x, 1)
		fine(t, s.Commit(x))
		for p := 2; p < s.Pages()-spare; p++ {
			x := begin(t, s)
			if q, e := space.Take(s, x); q != p || e != api.OK {
				t.Fatalf("Take is %d, %d", q, e)
			}
			fine(t, s.Commit(x))
		}
		want, count := pairs{}, func() int {
			n, e := space.Count(s)
			fine(t, e)
			return n
		}
		had := count()
		refusals := 0
		for i := range 60 {
			x := begin(t, s)
			mark, was := save(t, s, x), whole(t, s)
			v := strings.Repeat("v", 100)
			e := tree.Put(s, x, root, []byte(spelt(i*7%60)), []byte(v))
			if e == api.ErrFull {
				refusals++
				holds(t, s, root, want) // the first Write waits until all pages are there
				fine(t, s.Back(x, mark))
				if !bytes.Equal(whole(t, s), was) {
					t.Fatal("Back leaves something")
				}
			} else {
				fine(t, e)
				want[spelt(i*7%60)] = v
			}
			fine(t, s.Commit(x))
			if n := len(holds(t, s, root, want).pages); count() != had+n-1 || n > 1+spare {
				t.Fatalf("%d pages of the tree, %d in all", n, count())
			}
		}
		if refusals == 0 || len(want) < 2+spare/2 {
			t.Fatalf("%d pairs, %d refusals", len(want), refusals)
		}
		for _, k := range want.keys() {
			x := begin(t, s)
			puts(t, s, x, root, k, "w")
			fine(t, s.Commit(x))
			want[k] = "w"
		}
		holds(t, s, root, want)
		for _, k := range want.keys() {
			x := begin(t, s)
			dels(t, s, x, root, k, true)
			fine(t, s.Commit(x))
			delete(want, k)
			holds(t, s, root, want)
		}
		if count() != had {
			t.Fatalf("%d pages are taken, want %d", count(), had)
		}
	}
}

// 13.3: a log without room refuses in the midst of a call; whoever goes back has everything as it was, and can go on.
func TestFullLog(t *testing.T) {
	midst := 0
	for _, sectors := range []int{128, 160, 192, 256} {
		for n := range 12 {
			s, _ := ready(t, sectors, 4)
			x := begin(t, s)
			root := makes(t, s, x, 1)
			fine(t, s.Commit(x))
			want := pairs{}
			x = begin(t, s)
			for i := 0; ; i++ {
				mark, was := save(t, s, x), whole(t, s)
				k, v := spelt(i*5%12), strings.Repeat("v", (n*31+i*17)%101)
				var e api.Errno
				log := told(s, func() {
					if i%4 == 3 {
						_, e = tree.Del(s, x, root, []byte(k))
						v = "-"
					} else {
						e = tree.Put(s, x, root, []byte(k), []byte(v))
					}
				})
				if e == api.OK {
					want[k] = v
					if v == "-" {
						delete(want, k)
					}
					holds(t, s, root, want)
					continue
				}
				refused(t, e, api.ErrFull)
				if len(log) > 0 {
					midst++
				}
				fine(t, s.Back(x, mark))
				if !bytes.Equal(whole(t, s), was) {
					t.Fatal("Back leaves something")
				}
				break
			}
			fine(t, s.Commit(x))
			taken(t, s, holds(t, s, root, want).pages...)
			for _, k := range want.keys() {
				x := begin(t, s)
				dels(t, s, x, root, k, true)
				fine(t, s.Commit(x))
			}
			taken(t, s, root)
		}
	}
	if midst < 3 {
		t.Fatalf("only %d refusals in the midst", midst)
	}
}

// 13.3: Make takes a page and has no room to make it a leaf.
func TestMakeFullLog(t *testing.T) {
	s, _ := ready(t, 256, 4)
	for p := 1; p < s.Pages(); p++ {
		x := begin(t, s)
		fine(t, s.Write(x, p, 0, bytes.Repeat([]byte{7}, 504)))
		fine(t, s.Commit(x))
	}
	x := begin(t, s)
	for p := 1; ; p++ {
		mark, was := save(t, s, x), whole(t, s)
		var root int
		var e api.Errno
		log := told(s, func() { root, e = tree.Make(s, x) })
		if e == api.OK && root == p {
			holds(t, s, root, nil)
			continue
		}
		if root != 0 || e != api.ErrFull || len(log) != 1 {
			t.Fatalf("Make is %d, %d, with %d records", root, e, len(log))
		}
		fine(t, s.Back(x, mark))
		if !bytes.Equal(whole(t, s), was) {
			t.Fatal("Back leaves something")
		}
		break
	}
}

// A transaction that is not open changes nothing; nor does one whose bytes another one has changed.
func TestNotOpenAndBusy(t *testing.T) {
	s, _ := ready(t, 2048, 4)
	x := begin(t, s)
	root := makes(t, s, x, 1)
	for i := range 9 {
		puts(t, s, x, root, spelt(i), "v")
	}
	still(t, s, func() {
		for _, y := range []int{0, -1, x + 1, 99} {
			refused(t, tree.Put(s, y, root, []byte("a"), nil), api.ErrNone)
			refused(t, tree.Put(s, y, root, []byte(spelt(3)), nil), api.ErrNone)
			if ok, e := tree.Del(s, y, root, []byte(spelt(3))); ok || e != api.ErrNone {
				t.Fatalf("Del is %v, %d", ok, e)
			}
			refused(t, tree.Drop(s, y, root), api.ErrNone)
		}
	})
	y := begin(t, s)
	still(t, s, func() {
		refused(t, tree.Put(s, y, root, []byte(spelt(3)), nil), api.ErrBusy)
		if ok, e := tree.Del(s, y, root, []byte(spelt(3))); ok || e != api.ErrBusy {
			t.Fatalf("Del is %v, %d", ok, e)
		}
		refused(t, tree.Drop(s, y, root), api.ErrBusy)
	})
	gets(t, s, root, spelt(3), "v") // as it is, by whomever
	fine(t, s.Commit(x))
	puts(t, s, y, root, spelt(3), "w")
	dels(t, s, y, root, spelt(4), true)
	gets(t, s, root, spelt(3), "w")
	fine(t, s.Commit(y))
}

// What the device's failure makes of a call, and of every later one.
func TestDead(t *testing.T) {
	s, d := ready(t, 1024, 1)
	x := begin(t, s)
	root := makes(t, s, x, 1)
	for i := range 9 {
		puts(t, s, x, root, spelt(i), "v")
	}
	fine(t, s.Commit(x))
	x = begin(t, s)
	d.Fuse(0)
	var e api.Errno
	for i := 0; e == api.OK && i < 50; i++ {
		e = tree.Put(s, x, root, []byte(spelt(i)), []byte("w"))
	}
	refused(t, e, api.ErrDead)
	if v, ok, e := tree.Get(s, root, []byte(spelt(1))); len(v) > 0 || ok || e != api.ErrDead {
		t.Fatalf("Get is %q, %v, %d", v, ok, e)
	}
	if ok, e := tree.Del(s, x, root, []byte(spelt(1))); ok || e != api.ErrDead {
		t.Fatalf("Del is %v, %d", ok, e)
	}
	if k, v, e := tree.Range(s, root, nil, nil); len(k)+len(v) > 0 || e != api.ErrDead {
		t.Fatalf("Range is %q, %q, %d", k, v, e)
	}
	if l, e := tree.Levels(s, root); len(l) > 0 || e != api.ErrDead {
		t.Fatalf("Levels is %v, %d", l, e)
	}
	if p, e := tree.Make(s, x); p != 0 || e != api.ErrDead {
		t.Fatalf("Make is %d, %d", p, e)
	}
	refused(t, tree.Drop(s, x, root), api.ErrDead)
	refused(t, tree.Put(s, x, root, nil, nil), api.ErrArg)
}

// 13.4: two transactions go on beside each other, each with a tree of its own, and one goes back: no page is both's.
func TestTwoTrees(t *testing.T) {
	r := rand.New(rand.NewSource(5))
	for range 12 {
		s, _ := ready(t, 4096, 8)
		x := begin(t, s)
		roots := []int{makes(t, s, x, 2), makes(t, s, x, 3)}
		fine(t, s.Commit(x))
		had := []pairs{{}, {}}
		for range 6 {
			open := []int{begin(t, s), begin(t, s)}
			now := []pairs{{}, {}}
			for i, m := range had {
				for k, v := range m {
					now[i][k] = v
				}
			}
			for range 12 {
				i := r.Intn(2)
				k, v := spelt(r.Intn(15)), strings.Repeat("v", r.Intn(101))
				if r.Intn(3) > 0 {
					puts(t, s, open[i], roots[i], k, v)
					now[i][k] = v
				} else {
					_, is := now[i][k]
					dels(t, s, open[i], roots[i], k, is)
					delete(now[i], k)
				}
				a, b := holds(t, s, roots[0], now[0]), holds(t, s, roots[1], now[1])
				taken(t, s, append(a.pages, b.pages...)...)
			}
			for i := range 2 {
				if r.Intn(2) == 0 {
					fine(t, s.Commit(open[i]))
					had[i] = now[i]
				} else {
					fine(t, s.Rollback(open[i]))
				}
			}
			a, b := holds(t, s, roots[0], had[0]), holds(t, s, roots[1], had[1])
			taken(t, s, append(a.pages, b.pages...)...)
		}
	}
}
