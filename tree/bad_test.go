package tree_test

import (
	"bytes"
	"fmt"
	"math/rand"
	"slices"
	"strings"
	"testing"

	"palimpsest/api"
	"palimpsest/node"
	"palimpsest/slot"
	"palimpsest/space"
	"palimpsest/store"
	"palimpsest/tree"
)

// plan is a tree that is laid into pages by hand: an inner node's kids, with the keys between them, or a leaf's keys.
type plan struct {
	keys []string
	kids []plan
	page int
}

func leafPlan(keys ...string) plan { return plan{keys: keys} }

func innerPlan(keys []string, kids ...plan) plan { return plan{keys: keys, kids: kids} }

// take gives a plan's nodes pages, from the root on.
func (p *plan) take(t *testing.T, s *store.Store, x int) {
	t.Helper()
	var e api.Errno
	p.page, e = space.Take(s, x)
	fine(t, e)
	for i := range p.kids {
		p.kids[i].take(t, s, x)
	}
}

// leaves tells a plan's leaves from the left.
func (p *plan) leaves() []*plan {
	if len(p.kids) == 0 {
		return []*plan{p}
	}
	var l []*plan
	for i := range p.kids {
		l = append(l, p.kids[i].leaves()...)
	}
	return l
}

// lay writes the nodes of a plan whose pages are taken.
func (p *plan) lay(t *testing.T, s *store.Store, x int, next map[int]int) {
	t.Helper()
	n := node.Node{Leaf: len(p.kids) == 0, Next: next[p.page]}
	for _, k := range p.keys {
		n.Keys = append(n.Keys, []byte(k))
		if n.Leaf {
			n.Vals = append(n.Vals, []byte(value(k)))
		}
	}
	for i := range p.kids {
		n.Kids = append(n.Kids, p.kids[i].page)
		p.kids[i].lay(t, s, x, next)
	}
	write(t, s, x, p.page, n)
}

// value tells the value that a plan lays beside a key.
func value(k string) string {
	return k[len(k)/2:]
}

// write makes a page a node's.
func write(t *testing.T, s *store.Store, x, page int, n node.Node) {
	t.Helper()
	b, e := node.Encode(n)
	fine(t, e)
	fine(t, s.Write(x, page, 0, b))
}

// planted lays a plan into pages: its root, and what it holds.
func planted(t *testing.T, s *store.Store, p *plan) (int, pairs) {
	t.Helper()
	x := begin(t, s)
	p.take(t, s, x)
	next, l := map[int]int{}, p.leaves()
	want := pairs{}
	for i, leaf := range l {
		if i > 0 {
			next[l[i-1].page] = leaf.page
		}
		for _, k := range leaf.keys {
			want[k] = value(k)
		}
	}
	p.lay(t, s, x, next)
	fine(t, s.Commit(x))
	return p.page, want
}

// bad holds that no call takes what stands at a root for a tree, or changes it.
func bad(t *testing.T, s *store.Store, x, root int, keys ...string) {
	t.Helper()
	if _, ok := looked(s, root); ok {
		t.Fatalf("%d is a tree", root)
	}
	still(t, s, func() {
		for _, k := range append(keys, "a", "\xFF") {
			if v, ok, e := tree.Get(s, root, []byte(k)); len(v) > 0 || ok || e != api.ErrBad {
				t.Fatalf("Get is %q, %v, %d", v, ok, e)
			}
			refused(t, tree.Put(s, x, root, []byte(k), []byte("new")), api.ErrBad)
			if ok, e := tree.Del(s, x, root, []byte(k)); ok || e != api.ErrBad {
				t.Fatalf("Del is %v, %d", ok, e)
			}
			if l, v, e := tree.Range(s, root, []byte(k), nil); len(l)+len(v) > 0 || e != api.ErrBad {
				t.Fatalf("Range is %q, %q, %d", l, v, e)
			}
		}
		if l, e := tree.Levels(s, root); len(l) > 0 || e != api.ErrBad {
			t.Fatalf("Levels is %v, %d", l, e)
		}
		refused(t, tree.Drop(s, x, root), api.ErrBad)
	})
}

// 13.1: a root that is no page, one of the map, one that nobody has, and one of something else.
func TestBadRoot(t *testing.T) {
	s, _ := ready(t, 512, 4)
	x := begin(t, s)
	bad(t, s, x, 0) // the map of a store without another page has the bytes of an empty leaf
	for _, root := range []int{-1, -1 << 63, s.Pages(), s.Pages() + 1, 1 << 32, 1<<63 - 1, 1, s.Pages() - 1} {
		bad(t, s, x, root)
	}
	root := makes(t, s, x, 1)
	bad(t, s, x, 0)
	holds(t, s, root, nil)
	_, b, _ := slot.Put(slot.New(), []byte("a record"))
	fine(t, s.Write(x, 2, 0, b))
	fine(t, s.Write(x, 3, 0, bytes.Repeat([]byte{1}, 504)))
	fine(t, s.Write(x, 4, 0, bytes.Repeat([]byte{2}, 504)))
	fine(t, s.Write(x, 5, 0, []byte{1, 0, 0, 0, 0, 0, 6})) // a leaf that has another to its right
	fine(t, s.Write(x, 6, 0, []byte{1}))
	for _, root := range []int{2, 3, 4, 5} {
		bad(t, s, x, root)
	}
	holds(t, s, 6, nil)
}

// three tells a tree of three levels: its root's kids are inner nodes with two and three leaves.
func three() plan {
	return innerPlan([]string{"g"},
		innerPlan([]string{"d"}, leafPlan("a", "b", "c"), leafPlan("d", "e")),
		innerPlan([]string{"ii", "m"}, leafPlan("g"), leafPlan("j", "k"), leafPlan("m", "n")))
}

// damages tells, by their names, changes of the nodes of three, by which it is no tree any more. Its pages are 1: the root; 2: its left kid, with the leaves 3 and 4; 5: its right one, with 6, 7 and 8.
func damages() map[string]func(l map[int]*node.Node) {
	texts := func(l ...string) [][]byte {
		var all [][]byte
		for _, x := range l {
			all = append(all, []byte(x))
		}
		return all
	}
	return map[string]func(l map[int]*node.Node){
		"the root is its own kid":                 func(l map[int]*node.Node) { l[1].Kids[0] = 1 },
		"the root is its own right kid":           func(l map[int]*node.Node) { l[1].Kids[1] = 1 },
		"a node is its own kid":                   func(l map[int]*node.Node) { l[5].Kids[1] = 5 },
		"the root is a kid's kid":                 func(l map[int]*node.Node) { l[2].Kids[1] = 1 },
		"the root is both its kids":               func(l map[int]*node.Node) { l[1].Kids = []int{1, 1} },
		"inner nodes without an end":              func(l map[int]*node.Node) { l[2].Kids, l[5].Kids = []int{5, 5}, []int{2, 1, 2} },
		"two kids are one":                        func(l map[int]*node.Node) { l[5].Kids[1] = 6 },
		"two kids of the root are one":            func(l map[int]*node.Node) { l[1].Kids[1] = 2 },
		"kids of two nodes are one":               func(l map[int]*node.Node) { l[5].Kids[0] = 4; l[4].Next = 4 },
		"a kid is no page":                        func(l map[int]*node.Node) { l[2].Kids[0] = 5000 },
		"a kid is the greatest number":            func(l map[int]*node.Node) { l[2].Kids[1] = 1<<32 - 1 },
		"a kid is of the map":                     func(l map[int]*node.Node) { l[2].Kids[0] = 0 },
		"a kid holds noughts":                     func(l map[int]*node.Node) { l[5].Kids[2] = 9 },
		"a leaf beside inner nodes":               func(l map[int]*node.Node) { l[1].Kids[0] = 3; l[3].Next = 6 },
		"a leaf beside inner nodes, right":        func(l map[int]*node.Node) { l[1].Kids[1] = 6; l[6].Next = 0 },
		"a leaf beside an inner node, with Next":  func(l map[int]*node.Node) { l[1].Kids[0] = 3; l[3].Next = 5 },
		"a leaf beside an inner node, right, too": func(l map[int]*node.Node) { l[1].Kids[1] = 6; l[4].Next, l[6].Next = 0, 0 },
		"an inner node beside leaves, with Next": func(l map[int]*node.Node) {
			l[2].Kids[1] = 5
			l[3].Next = 6
			l[5].Keys[0] = []byte("f")
			l[1].Kids, l[1].Keys[0] = []int{2, 4}, []byte("d")
			l[4].Next = 0
		},
		"an inner node beside leaves":         func(l map[int]*node.Node) { l[1].Kids[0] = 3; l[2].Kids[0] = 8; l[5].Kids[2] = 2 },
		"the first leaf's Next is none":       func(l map[int]*node.Node) { l[3].Next = 0 },
		"a leaf's Next goes past one":         func(l map[int]*node.Node) { l[6].Next = 8 },
		"a leaf's Next is itself":             func(l map[int]*node.Node) { l[7].Next = 7 },
		"a leaf's Next goes back":             func(l map[int]*node.Node) { l[7].Next = 6 },
		"a leaf's Next is none, at the cut":   func(l map[int]*node.Node) { l[4].Next = 0 },
		"a leaf's Next is an inner node":      func(l map[int]*node.Node) { l[4].Next = 5 },
		"the last leaf's Next is the first":   func(l map[int]*node.Node) { l[8].Next = 3 },
		"the last leaf's Next is nobody's":    func(l map[int]*node.Node) { l[8].Next = 9 },
		"a left key is the one that parts":    func(l map[int]*node.Node) { l[3].Keys[2] = []byte("d") },
		"a left key is above the one":         func(l map[int]*node.Node) { l[3].Keys[2] = []byte("dd") },
		"a right key is below the one":        func(l map[int]*node.Node) { l[4].Keys[0] = []byte("cc") },
		"a left key is the root's":            func(l map[int]*node.Node) { l[4].Keys[1] = []byte("g") },
		"a right key is below the root's":     func(l map[int]*node.Node) { l[6].Keys[0] = []byte("ff") },
		"the root's key is too great":         func(l map[int]*node.Node) { l[1].Keys[0] = []byte("gg") },
		"the root's key is too small":         func(l map[int]*node.Node) { l[1].Keys[0] = []byte("e") },
		"a key that parts is too great":       func(l map[int]*node.Node) { l[5].Keys[0] = []byte("jj") },
		"a key that parts is too small":       func(l map[int]*node.Node) { l[5].Keys[0] = []byte("g") },
		"a key that parts is that of another": func(l map[int]*node.Node) { l[2].Keys[0] = []byte("z") },
		"a key that parts has no bytes":       func(l map[int]*node.Node) { l[2].Keys[0] = nil },
		"two leaves are exchanged": func(l map[int]*node.Node) {
			l[3].Keys, l[4].Keys, l[3].Vals, l[4].Vals = l[4].Keys, l[3].Keys, l[4].Vals, l[3].Vals
		},
		"leaves are exchanged, with Next": func(l map[int]*node.Node) {
			l[5].Kids[0], l[5].Kids[1] = 7, 6
			l[4].Next, l[7].Next, l[6].Next = 7, 6, 8
		},
		"a leaf has no key":       func(l map[int]*node.Node) { l[6].Keys, l[6].Vals = nil, nil },
		"the first has no key":    func(l map[int]*node.Node) { l[3].Keys, l[3].Vals = nil, nil },
		"an inner one has no key": func(l map[int]*node.Node) { l[2].Keys, l[2].Kids = nil, []int{3}; l[3].Next = 6 },
		"the root has no key":     func(l map[int]*node.Node) { l[1].Keys, l[1].Kids = nil, []int{5} },
		"an inner one has one key more": func(l map[int]*node.Node) {
			l[2].Keys, l[2].Kids = texts("d", "dd"), []int{3, 4, 5}
		},
	}
}

// 13.1, 13.2: whatever of a tree's pages is wrong, and wherever: ErrBad, of each call and each key.
func TestBad(t *testing.T) {
	for name, damage := range damages() {
		t.Run(name, func(t *testing.T) {
			s, _ := ready(t, 1024, 4)
			p := three()
			root, want := planted(t, s, &p)
			if l := holds(t, s, root, want); root != 1 || !slices.Equal(l.pages, []int{1, 2, 3, 4, 5, 6, 7, 8}) {
				t.Fatal(l.pages)
			}
			x := begin(t, s)
			nodes := map[int]*node.Node{}
			for page := 1; page < 9; page++ {
				b, _ := s.Read(page, 0, 504)
				n, _ := node.Decode(b)
				nodes[page] = &n
			}
			damage(nodes)
			for page, n := range nodes {
				write(t, s, x, page, *n)
			}
			bad(t, s, x, root, append(want.keys(), "dd", "h", "z")...)
			fine(t, s.Rollback(x))
			holds(t, s, root, want)
		})
	}
}

// 13.2, 13.5: of each page each byte made another: the calls tell it just where it is no tree any more.
func TestEveryByte(t *testing.T) {
	s, _ := ready(t, 8192, 64)
	p := innerPlan([]string{"g"},
		innerPlan([]string{"d"}, leafPlan("a", "b"), leafPlan("d")),
		innerPlan([]string{"j"}, leafPlan("g"), leafPlan("k", "l")))
	root, want := planted(t, s, &p)
	l := holds(t, s, root, want)
	trees := 0
	for _, page := range l.pages {
		b, _ := s.Read(page, 0, 504)
		for i := range 40 {
			x := begin(t, s)
			for _, by := range []byte{1, 2, 4, 255, 128} {
				fine(t, s.Write(x, page, i, []byte{b[i] + by}))
				is, ok := looked(s, root)
				levels, e := tree.Levels(s, root)
				if _, _, other := tree.Get(s, root, []byte("d")); other != e {
					t.Fatalf("Get answers %d, Levels %d", other, e)
				}
				if !ok {
					refused(t, e, api.ErrBad)
					continue
				}
				trees++
				if e != api.OK || !sameLevels(levels, is.levels) {
					t.Fatalf("Levels is %v, %d, want %v", levels, e, is.levels)
				}
			}
			fine(t, s.Rollback(x))
		}
	}
	if trees < 20 {
		t.Fatal("only ", trees, " were trees still")
	}
	holds(t, s, root, want)
}

// 13.5: pages full of nodes that lead anywhere: each call ends, and tells a tree just where there is one.
func TestHostile(t *testing.T) {
	trees := 0
	for seed := range 60 {
		r := rand.New(rand.NewSource(int64(seed)))
		s, _ := ready(t, 256, 64)
		for p := 1; p < 12; p++ {
			n := node.Node{Leaf: r.Intn(3) > 0}
			for i := range r.Intn(4) {
				n.Keys = append(n.Keys, []byte{byte('a' + 3*i + r.Intn(3))})
			}
			for range n.Keys {
				n.Vals = append(n.Vals, []byte("v"))
			}
			n.Next = r.Intn(14) * r.Intn(2)
			if !n.Leaf {
				n.Vals, n.Next = nil, 0
				for range len(n.Keys) + 1 {
					n.Kids = append(n.Kids, r.Intn(14))
				}
			}
			x := begin(t, s)
			write(t, s, x, p, n)
			fine(t, s.Commit(x))
		}
		for root := -1; root < s.Pages()+1; root++ {
			x := begin(t, s)
			if l, ok := looked(s, root); ok {
				trees++
				if got, e := tree.Levels(s, root); !sameLevels(got, l.levels) || e != api.OK {
					t.Fatalf("Levels is %v, %d, want %v", got, e, l.levels)
				}
				tree.Put(s, x, root, []byte("ab"), nil)
				tree.Del(s, x, root, []byte("a"))
			} else {
				bad(t, s, x, root)
			}
			fine(t, s.Rollback(x))
		}
	}
	if trees < 20 {
		t.Fatal("only ", trees, " were trees")
	}
}

// wide tells a key of so many bytes.
func wide(i, n int) string {
	return fmt.Sprintf("%03d%s", i, strings.Repeat("x", n-3))
}

// sparse tells an inner node with one key of so many bytes between two leaves of one key each.
func sparse(i, n int) plan {
	return innerPlan([]string{wide(i+1, n)}, leafPlan(wide(i, 100)), leafPlan(wide(i+1, 100)))
}

// full tells an inner node with four of the longest keys, and five leaves.
func full(i int) plan {
	return innerPlan([]string{wide(i+1, 100), wide(i+2, 100), wide(i+3, 100), wide(i+4, 100)},
		leafPlan(wide(i, 100)), leafPlan(wide(i+1, 100)), leafPlan(wide(i+2, 100)), leafPlan(wide(i+3, 100)), leafPlan(wide(i+4, 100)))
}

// crowded tells an inner node without a free byte, of whose kids one is full and one, beside it, has but two leaves; if left, that is the left one of them, else the right one. The key between them is shorter than any of the full one's. It tells the key of one of the two leaves, too.
func crowded(left bool) (plan, string) {
	var kids []plan
	for i := range 4 {
		kids = append(kids, sparse(10*i, 100))
	}
	p := innerPlan([]string{wide(10, 100), wide(20, 100), wide(30, 100), wide(40, 99)}, kids...)
	if left {
		p.kids = append([]plan{sparse(0, 100), full(5)}, kids[1:]...)
		p.kids = append(p.kids, sparse(40, 100))
		p.keys = append([]string{wide(5, 64)}, p.keys...)
		return p, wide(0, 100)
	}
	p.kids = append(p.kids, full(40), sparse(50, 100))
	p.keys = append(p.keys, wide(50, 64))
	return p, wide(50, 100)
}

// 13.1, 13.2: an inner node that runs empty beside one that is full gets some of it; the key between them becomes a longer one, and the node above them, which has no room for that, splits though a key is deleted.
func TestDelSplits(t *testing.T) {
	for _, left := range []bool{true, false} {
		for _, deep := range []bool{true, false} {
			p, k := crowded(left)
			levels := 4
			if deep { // the one that splits is not the root
				p = innerPlan([]string{wide(90, 3)}, p, innerPlan([]string{wide(94, 3)}, sparse(90, 100), sparse(94, 100)))
				levels = 4
			}
			s, _ := ready(t, 2048, 16)
			root, want := planted(t, s, &p)
			before := holds(t, s, root, want)
			if !deep && node.Size(before.levels[0][0]) != 504 || deep && node.Size(before.levels[1][0]) != 504 {
				t.Fatal("the node has room")
			}
			call := func(x int) { dels(t, s, x, root, k, true) }
			undone(t, s, call)
			change(t, s, call)
			delete(want, k)
			after := holds(t, s, root, want)
			if len(after.levels) != levels {
				t.Fatalf("%d levels", len(after.levels))
			}
			taken(t, s, after.pages...)
			for _, k := range want.keys() {
				change(t, s, func(x int) { dels(t, s, x, root, k, true) })
				delete(want, k)
				taken(t, s, holds(t, s, root, want).pages...)
			}
		}
	}
}

// 13.3: a Del that needs a page uses one that it frees; if it needs more than there are, it is refused, and whoever goes back has all as it was.
func TestDelWithoutRoom(t *testing.T) {
	for free := range 2 {
		p, k := crowded(false)
		s, _ := ready(t, 2048, 16)
		root, want := planted(t, s, &p)
		for n, e := space.Count(s); n < s.Pages()-free; n++ {
			x := begin(t, s)
			_, e = space.Take(s, x)
			fine(t, e)
			fine(t, s.Commit(x))
		}
		was := whole(t, s)
		x := begin(t, s)
		mark := save(t, s, x)
		ok, e := tree.Del(s, x, root, []byte(k))
		if free == 1 {
			if !ok || e != api.OK {
				t.Fatalf("Del is %v, %d", ok, e)
			}
			delete(want, k)
			holds(t, s, root, want)
			continue
		}
		if ok || e != api.ErrFull {
			t.Fatalf("Del is %v, %d", ok, e)
		}
		holds(t, s, root, want)
		fine(t, s.Back(x, mark))
		if !bytes.Equal(whole(t, s), was) {
			t.Fatal("Back leaves something")
		}
	}
}
