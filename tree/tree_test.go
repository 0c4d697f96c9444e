package tree_test

import (
	"bytes"
	"fmt"
	"maps"
	"math/bits"
	"slices"
	"strings"
	"testing"

	"palimpsest/api"
	"palimpsest/dev"
	"palimpsest/node"
	"palimpsest/redo"
	"palimpsest/space"
	"palimpsest/store"
	"palimpsest/tree"
)

// ready opens a store of a new device whose map is formatted.
func ready(t *testing.T, sectors, frames int) (*store.Store, *dev.Dev) {
	t.Helper()
	d, e := dev.New(sectors)
	fine(t, e)
	s := again(t, d, frames)
	x := begin(t, s)
	fine(t, space.Format(s, x))
	fine(t, s.Commit(x))
	return s, d
}

// again opens a store of a device that has been used.
func again(t *testing.T, d *dev.Dev, frames int) *store.Store {
	t.Helper()
	s, e := store.Open(d, frames)
	if e != api.OK {
		t.Fatal("Open: ", e)
	}
	return s
}

func begin(t *testing.T, s *store.Store) int {
	t.Helper()
	x, e := s.Begin()
	if e != api.OK {
		t.Fatal("Begin: ", e)
	}
	return x
}

func save(t *testing.T, s *store.Store, x int) int {
	t.Helper()
	mark, e := s.Save(x)
	if e != api.OK {
		t.Fatal("Save: ", e)
	}
	return mark
}

// fine takes what a call answered that must go well.
func fine(t *testing.T, e api.Errno) {
	t.Helper()
	if e != api.OK {
		t.Fatal(e)
	}
}

// refused takes what a call answered that must not.
func refused(t *testing.T, e, want api.Errno) {
	t.Helper()
	if e != want {
		t.Fatalf("answered %d, want %d", e, want)
	}
}

func makes(t *testing.T, s *store.Store, x, want int) int {
	t.Helper()
	root, e := tree.Make(s, x)
	if root != want || e != api.OK {
		t.Fatalf("Make is %d, %d, want %d", root, e, want)
	}
	return root
}

func puts(t *testing.T, s *store.Store, x, root int, k, v string) {
	t.Helper()
	if e := tree.Put(s, x, root, []byte(k), []byte(v)); e != api.OK {
		t.Fatalf("Put(%q) is %d", k, e)
	}
}

func dels(t *testing.T, s *store.Store, x, root int, k string, want bool) {
	t.Helper()
	if ok, e := tree.Del(s, x, root, []byte(k)); ok != want || e != api.OK {
		t.Fatalf("Del(%q) is %v, %d, want %v", k, ok, e, want)
	}
}

// gets holds that a key has a value.
func gets(t *testing.T, s *store.Store, root int, k, want string) {
	t.Helper()
	if v, ok, e := tree.Get(s, root, []byte(k)); string(v) != want || !ok || e != api.OK {
		t.Fatalf("Get(%q) is %q, %v, %d, want %q", k, v, ok, e, want)
	}
}

// lacks holds that a key is not there.
func lacks(t *testing.T, s *store.Store, root int, k string) {
	t.Helper()
	if v, ok, e := tree.Get(s, root, []byte(k)); len(v) > 0 || ok || e != api.OK {
		t.Fatalf("Get(%q) is %q, %v, %d", k, v, ok, e)
	}
}

// look is a second reading of 13.2: it goes through a tree's pages from its root on, and minds each of the words by itself.
type look struct {
	s      *store.Store
	levels [][]node.Node
	rows   [][]int // the nodes' pages
	pages  []int
	leaves []node.Node
	at     []int // the leaves' pages
	deep   []int
	wrong  bool
}

// walk goes through what hangs at a page, and tells all keys of its leaves.
func (l *look) walk(p, depth int) [][]byte {
	maps := (l.s.Pages() + 503) / 504
	if p < maps || p >= l.s.Pages() || slices.Contains(l.pages, p) {
		l.wrong = true
		return nil
	}
	l.pages = append(l.pages, p)
	b, e := l.s.Read(p, 0, 504)
	n, ok := node.Decode(b)
	if e != api.OK || !ok {
		l.wrong = true
		return nil
	}
	if depth == len(l.levels) {
		l.levels, l.rows = append(l.levels, nil), append(l.rows, nil)
	}
	l.levels[depth], l.rows[depth] = append(l.levels[depth], n), append(l.rows[depth], p)
	l.wrong = l.wrong || len(n.Keys) == 0 && (depth > 0 || !n.Leaf)
	if n.Leaf {
		l.leaves, l.at, l.deep = append(l.leaves, n), append(l.at, p), append(l.deep, depth)
		return n.Keys
	}
	var kids [][][]byte
	for _, kid := range n.Kids {
		kids = append(kids, l.walk(kid, depth+1))
		if l.wrong { // as soon as it is no tree: its pages may lead anywhere
			return nil
		}
	}
	for i, k := range n.Keys {
		for _, left := range kids[i] {
			l.wrong = l.wrong || bytes.Compare(left, k) >= 0
		}
		for _, right := range kids[i+1] {
			l.wrong = l.wrong || bytes.Compare(right, k) < 0
		}
	}
	return slices.Concat(kids...)
}

// looked tells what stands at a root, and whether it is a tree.
func looked(s *store.Store, root int) (*look, bool) {
	l := &look{s: s}
	keys := l.walk(root, 0)
	if l.wrong {
		return l, false
	}
	for i, n := range l.leaves {
		right := 0
		if i+1 < len(l.leaves) {
			right = l.at[i+1]
		}
		l.wrong = l.wrong || n.Next != right || l.deep[i] != len(l.levels)-1
	}
	for i := range len(keys) - 1 {
		l.wrong = l.wrong || bytes.Compare(keys[i], keys[i+1]) >= 0
	}
	return l, !l.wrong
}

func sameNode(a, b node.Node) bool {
	return a.Leaf == b.Leaf && a.Next == b.Next && slices.Equal(a.Kids, b.Kids) &&
		slices.EqualFunc(a.Keys, b.Keys, bytes.Equal) && slices.EqualFunc(a.Vals, b.Vals, bytes.Equal)
}

func sameLevels(a, b [][]node.Node) bool {
	return slices.EqualFunc(a, b, func(x, y []node.Node) bool { return slices.EqualFunc(x, y, sameNode) })
}

// pairs is what a tree holds.
type pairs map[string]string

func (m pairs) keys() []string {
	return slices.Sorted(maps.Keys(m))
}

// holds holds that a tree has just these pairs, by Levels and all that 13.2 says of it, by Range and by Get, and that it has no more levels than 13.4 says: it tells its pages.
func holds(t *testing.T, s *store.Store, root int, want pairs) *look {
	t.Helper()
	l, ok := looked(s, root)
	if !ok {
		t.Fatalf("%d is no tree: %v", root, l.levels)
	}
	told, e := tree.Levels(s, root)
	if !sameLevels(told, l.levels) || e != api.OK {
		t.Fatalf("Levels is %v, %d; the pages are %v", told, e, l.levels)
	}
	if most := bits.Len(uint(len(want)+1)) + 1; len(told) > most { // 2 + log2, rounded down
		t.Fatalf("%d levels of %d keys", len(told), len(want))
	}
	keys, vals, e := tree.Range(s, root, nil, nil)
	if len(keys) != len(want) || len(vals) != len(want) || e != api.OK {
		t.Fatalf("Range has %d keys, %d values, %d; want %d", len(keys), len(vals), e, len(want))
	}
	for i, k := range want.keys() {
		if string(keys[i]) != k || string(vals[i]) != want[k] {
			t.Fatalf("Range's pair %d is %q: %q, want %q: %q", i, keys[i], vals[i], k, want[k])
		}
	}
	return l
}

// taken holds that of all pages just the map's and these are taken.
func taken(t *testing.T, s *store.Store, want ...int) {
	t.Helper()
	for p := range s.Pages() {
		is, e := space.Taken(s, p)
		if e != api.OK || is != (p < space.Maps(s.Pages()) || slices.Contains(want, p)) {
			t.Fatalf("Taken(%d) is %v, %d; want %v", p, is, e, want)
		}
	}
}

// whole tells the bytes of all pages.
func whole(t *testing.T, s *store.Store) []byte {
	t.Helper()
	var l []byte
	for p := range s.Pages() {
		b, e := s.Read(p, 0, api.PageData)
		if e != api.OK {
			t.Fatal("Read: ", e)
		}
		l = append(l, b...)
	}
	return l
}

// still holds that a call neither told the log anything nor changed a page.
func still(t *testing.T, s *store.Store, call func()) {
	t.Helper()
	log, was := len(s.Log()), whole(t, s)
	call()
	if n := len(s.Log()); n != log {
		t.Fatalf("%d records, there were %d", n, log)
	}
	if !bytes.Equal(whole(t, s), was) {
		t.Fatal("a page is not what it was")
	}
}

// told tells the records that a call put behind the log, but those of a checkpoint that it needed room for.
func told(s *store.Store, call func()) []redo.Line {
	l := s.Log()
	last := l[len(l)-1].LSN
	call()
	return slices.DeleteFunc(s.Log(), func(x redo.Line) bool { return x.LSN <= last || x.Rec.Kind == api.RCheck })
}

// once holds that of a call's records each is an update that has no byte at either end that stays, and that no page but those of the map is told of twice.
func once(t *testing.T, s *store.Store, l []redo.Line) {
	t.Helper()
	had := map[int]int{}
	for _, x := range l {
		r := x.Rec
		had[r.Page]++
		if r.Kind != api.RUpdate || had[r.Page] > 1 && r.Page >= space.Maps(s.Pages()) {
			t.Fatalf("the record is %v", r)
		}
		last := len(r.After) - 1
		if r.Before[0] == r.After[0] || r.Before[last] == r.After[last] {
			t.Fatal("the record tells a byte that stays")
		}
	}
}

// The chapter's examples.
func TestExamples(t *testing.T) {
	s, _ := ready(t, 512, 4)
	x := begin(t, s)
	root := makes(t, s, x, 1)
	puts(t, s, x, root, "b", "1")
	puts(t, s, x, root, "a", "2")
	holds(t, s, root, pairs{"a": "2", "b": "1"})
	dels(t, s, x, root, "c", false)
	holds(t, s, root, pairs{"a": "2", "b": "1"})
}

// 13.1: an empty leaf, by a single Write, whatever the page held before.
func TestMake(t *testing.T) {
	s, _ := ready(t, 512, 2)
	x := begin(t, s)
	log := told(s, func() { makes(t, s, x, 1) })
	once(t, s, log)
	if len(log) != 2 || log[0].Rec.Page != 0 || log[1].Rec.Page != 1 {
		t.Fatalf("the records are %v", log)
	}
	fine(t, s.Write(x, 2, 3, []byte("what another one left")))
	log = told(s, func() { makes(t, s, x, 2) })
	once(t, s, log)
	if len(log) != 2 || log[1].Rec.Page != 2 || log[1].Rec.Off != 0 || len(log[1].Rec.After) != 24 {
		t.Fatalf("the records are %v", log)
	}
	for _, root := range []int{1, 2} {
		b, e := s.Read(root, 0, api.PageData)
		if e != api.OK || !bytes.Equal(b, append([]byte{1}, make([]byte, 503)...)) {
			t.Fatalf("page %d is %x, %d", root, b, e)
		}
		holds(t, s, root, nil)
	}
	taken(t, s, 1, 2)
	fine(t, s.Rollback(x))
	taken(t, s)
}

// 13.1: Make on a store without a free page, and by a transaction that is not open.
func TestMakeRefused(t *testing.T) {
	s, _ := ready(t, 256, 2)
	still(t, s, func() {
		for _, x := range []int{-1, 0, 1, 2, 99} {
			if root, e := tree.Make(s, x); root != 0 || e != api.ErrNone {
				t.Fatalf("Make is %d, %d", root, e)
			}
		}
	})
	var roots []int
	for p := 1; p < s.Pages(); p++ {
		x := begin(t, s)
		roots = append(roots, makes(t, s, x, p))
		fine(t, s.Commit(x))
	}
	x := begin(t, s)
	still(t, s, func() {
		if root, e := tree.Make(s, x); root != 0 || e != api.ErrFull {
			t.Fatalf("Make is %d, %d", root, e)
		}
	})
	fine(t, tree.Drop(s, x, 7))
	makes(t, s, x, 7)
	taken(t, s, roots...)
}

// 13.1: keys and values of no bytes, of the fewest, of the most, and of one more.
func TestLengths(t *testing.T) {
	s, _ := ready(t, 1024, 2)
	x := begin(t, s)
	root := makes(t, s, x, 1)
	want := pairs{}
	for _, k := range []string{"a", strings.Repeat("b", 100), strings.Repeat("c", 99), strings.Repeat("\x00", 100), "\x00", "\xFF"} {
		for _, n := range []int{0, 1, 99, 100, 0} {
			want[k] = strings.Repeat("v", n)
			puts(t, s, x, root, k, want[k])
			holds(t, s, root, want)
			gets(t, s, root, k, want[k])
		}
	}
	long := make([]byte, 300)
	for _, y := range []int{x, 99} {
		for _, at := range []int{root, 0, -1, 9, 1 << 40} { // the lengths are looked at ahead of all else
			still(t, s, func() {
				for _, pair := range [][2][]byte{{nil, nil}, {{}, {1}}, {nil, long}, {long[:101], nil}, {long[:101], long[:101]}, {long, nil}, {long[:1], long[:101]}, {long[:100], long}} {
					refused(t, tree.Put(s, y, at, pair[0], pair[1]), api.ErrArg)
				}
			})
		}
	}
	holds(t, s, root, want)
	still(t, s, func() { // no such key can be there
		for _, k := range []string{"", string(long[:101]), string(long), strings.Repeat("b", 101), "a\x00"} {
			lacks(t, s, root, k)
			dels(t, s, x, root, k, false)
		}
	})
}

// 13.1: another value in the place of a key's, longer, shorter, the same, of any bytes.
func TestPutAgain(t *testing.T) {
	s, _ := ready(t, 2048, 3)
	x := begin(t, s)
	root := makes(t, s, x, 1)
	want := pairs{}
	for i := range 30 {
		k := fmt.Sprint("key", i)
		want[k] = strings.Repeat("v", i)
		puts(t, s, x, root, k, want[k])
	}
	fine(t, s.Commit(x))
	for _, n := range []int{100, 3, 60, 0, 1, 100, 0} {
		for i := range 30 {
			x := begin(t, s)
			k := fmt.Sprint("key", i)
			want[k] = strings.Repeat("w", n)
			once(t, s, told(s, func() { puts(t, s, x, root, k, want[k]) }))
			still(t, s, func() { puts(t, s, x, root, k, want[k]) })
			l := holds(t, s, root, want)
			taken(t, s, l.pages...)
			gets(t, s, root, k, want[k])
			fine(t, s.Commit(x))
		}
	}
	puts(t, s, 99, root, "key0", "") // what stands there is that already: no Write that could be refused
}

// 13.1: keys that are not there, ahead of the first, between two, and behind the last, of trees of all heights.
func TestNotThere(t *testing.T) {
	for _, n := range []int{0, 1, 2, 3, 7, 20, 60, 120} {
		s, _ := ready(t, 8192, 8)
		x := begin(t, s)
		root := makes(t, s, x, space.Maps(s.Pages()))
		want := pairs{}
		for i := range n {
			k := spelt(2*i + 1)
			want[k] = strings.Repeat("v", 80)
			puts(t, s, x, root, k, want[k])
			fine(t, s.Commit(x))
			x = begin(t, s)
		}
		still(t, s, func() {
			for i := range n + 1 {
				for _, k := range []string{spelt(2 * i), spelt(2*i+1) + "\x00", spelt(2*i + 1)[:99]} {
					lacks(t, s, root, k)
					dels(t, s, x, root, k, false)
					dels(t, s, 99, root, k, false)
				}
			}
			for _, k := range []string{"", "\x00", "\xFF", "k", "l"} {
				lacks(t, s, root, k)
				dels(t, s, x, root, k, false)
			}
		})
		holds(t, s, root, want)
		for k, v := range want {
			gets(t, s, root, k, v)
		}
	}
}

// spelt tells a key of 100 bytes, all of which begin alike, so that a page holds few of them.
func spelt(i int) string {
	return fmt.Sprintf("%s%05d", strings.Repeat("k", 95), i)
}

// 13.1: from and to at keys, between them, ahead of the first and behind the last, and none, of trees of all heights.
func TestRange(t *testing.T) {
	for _, n := range []int{0, 1, 2, 5, 12, 40} {
		s, _ := ready(t, 8192, 8)
		x := begin(t, s)
		root := makes(t, s, x, space.Maps(s.Pages()))
		var keys, ends []string
		for i := range n {
			keys = append(keys, spelt(2*i+1))
		}
		for i := range 2*n + 3 {
			ends = append(ends, spelt(i))
		}
		ends = append(ends, "", "\x00", "\xFF", "k", strings.Repeat("z", 300))
		for _, k := range keys {
			puts(t, s, x, root, k, k[90:])
		}
		still(t, s, func() {
			for _, from := range ends {
				for _, to := range ends {
					var want []string
					for _, k := range keys {
						if k >= from && (to == "" || k < to) {
							want = append(want, k)
						}
					}
					got, vals, e := tree.Range(s, root, []byte(from), []byte(to))
					if e != api.OK || len(got) != len(want) || len(vals) != len(want) {
						t.Fatalf("Range(%q, %q) is %q, %q, %d; want %q", from, to, got, vals, e, want)
					}
					for i, k := range want {
						if string(got[i]) != k || string(vals[i]) != k[90:] {
							t.Fatalf("Range(%q, %q) is %q, %q; want %q", from, to, got, vals, want)
						}
					}
				}
			}
		})
	}
}

// 13.1: Range of no from, no to, or neither, be it nil or without bytes.
func TestRangeOfNone(t *testing.T) {
	s, _ := ready(t, 512, 8)
	x := begin(t, s)
	root := makes(t, s, x, 1)
	for _, k := range []string{"a", "b", "c", "d"} {
		puts(t, s, x, root, k, "")
	}
	for _, c := range []struct {
		from, to []byte
		want     string
	}{
		{nil, nil, "abcd"}, {[]byte{}, []byte{}, "abcd"}, {nil, []byte("c"), "ab"}, {[]byte{}, []byte("c"), "ab"},
		{[]byte("c"), nil, "cd"}, {[]byte("c"), []byte{}, "cd"}, {[]byte("b"), []byte("d"), "bc"}, {[]byte("d"), []byte("b"), ""},
		{[]byte("b"), []byte("b"), ""}, {[]byte("bb"), []byte("bc"), ""}, {[]byte("aa"), []byte("cc"), "bc"}, {[]byte("e"), nil, ""},
	} {
		keys, vals, e := tree.Range(s, root, c.from, c.to)
		if got := string(bytes.Join(keys, nil)); got != c.want || len(vals) != len(c.want) || e != api.OK {
			t.Errorf("Range(%q, %q) is %q, %q, %d, want %q", c.from, c.to, keys, vals, e, c.want)
		}
	}
}
