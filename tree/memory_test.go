package tree_test

import (
	"bytes"
	"slices"
	"testing"

	"palimpsest/api"
	"palimpsest/node"
	"palimpsest/store"
	"palimpsest/tree"
)

// roomy tells the same text with spare room behind it, which is filled.
func roomy(text string) []byte {
	return append([]byte(text), "spare room"...)[:len(text)]
}

// unchanged holds that a text that was handed in, with its spare room, is what it was.
func unchanged(t *testing.T, b []byte, text string) {
	t.Helper()
	if got := string(b[:len(text)+10]); got != text+"spare room" {
		t.Fatalf("%q has become %q", text+"spare room", got)
	}
}

// answer is what a call told: lists of texts, and nodes.
type answer struct {
	lists [][][]byte
	nodes [][]node.Node
}

// asked tells what each call that tells lists has to tell of a tree.
func asked(t *testing.T, s *store.Store, root int, k, from, to []byte) answer {
	t.Helper()
	v, _, e := tree.Get(s, root, k)
	fine(t, e)
	keys, vals, e := tree.Range(s, root, from, to)
	fine(t, e)
	nodes, e := tree.Levels(s, root)
	fine(t, e)
	return answer{lists: [][][]byte{{v}, keys, vals}, nodes: nodes}
}

// texts tells all texts of an answer, those in spare room too.
func (a answer) texts() [][]byte {
	var all [][]byte
	for _, l := range a.lists {
		all = append(all, l[:cap(l)]...)
	}
	for _, row := range a.nodes {
		for _, n := range row {
			all = append(append(all, n.Keys[:cap(n.Keys)]...), n.Vals[:cap(n.Vals)]...)
		}
	}
	return all
}

// spoil writes over all of an answer, spare room too, and tells whether what is written into one list shows in another.
func (a answer) spoil() bool {
	shared := false
	all := a.texts()
	for i, b := range all {
		copy(b[:cap(b)], bytes.Repeat([]byte{byte(i), byte(i >> 8)}, cap(b)))
	}
	for i, b := range all {
		shared = shared || !bytes.Equal(b[:cap(b)], bytes.Repeat([]byte{byte(i), byte(i >> 8)}, cap(b))[:cap(b)])
	}
	lists := slices.Clone(a.lists)
	var kids [][]int
	for _, row := range a.nodes {
		for _, n := range row {
			lists, kids = append(lists, n.Keys, n.Vals), append(kids, n.Kids)
		}
	}
	for i, l := range lists {
		for j := range l[:cap(l)] {
			l[:cap(l)][j] = []byte{byte(i), byte(i >> 8)}
		}
	}
	for i, l := range lists {
		for _, b := range l[:cap(l)] {
			shared = shared || !bytes.Equal(b, []byte{byte(i), byte(i >> 8)})
		}
	}
	for i, l := range kids {
		copy(l[:cap(l)], slices.Repeat([]int{-i}, cap(l)))
	}
	for i, l := range kids {
		shared = shared || !slices.Equal(l[:cap(l)], slices.Repeat([]int{-i}, cap(l)))
	}
	for i, row := range a.nodes {
		for j := range row[:cap(row)] {
			row[:cap(row)][j] = node.Node{Next: -i}
		}
	}
	for i, row := range a.nodes {
		for _, n := range row[:cap(row)] {
			shared = shared || n.Next != -i
		}
	}
	return shared
}

// 13.5, DOC's rule 3: what is told is new memory, in which no two lists are one, and nothing of it is kept.
func TestAnswersAreNew(t *testing.T) {
	for _, n := range []int{0, 1, 3, 30} {
		s, _ := ready(t, 4096, 64)
		x := begin(t, s)
		root := makes(t, s, x, 2)
		want := pairs{}
		for i := range n {
			want[spelt(i)] = spelt(i)[:i]
			puts(t, s, x, root, spelt(i), want[spelt(i)])
		}
		was := whole(t, s)
		for _, k := range append(want.keys(), "a") {
			for _, ends := range [][2]string{{"", ""}, {spelt(2), spelt(9)}, {spelt(9), spelt(2)}} {
				if asked(t, s, root, []byte(k), []byte(ends[0]), []byte(ends[1])).spoil() {
					t.Fatal("two lists are one")
				}
			}
		}
		if !bytes.Equal(whole(t, s), was) {
			t.Fatal("a page is not what it was")
		}
		holds(t, s, root, want)
	}
}

// 13.5, DOC's rule 3: what is handed in is not changed, nor the spare room behind it; nor is it kept, or told.
func TestHandedIn(t *testing.T) {
	s, _ := ready(t, 4096, 64)
	x := begin(t, s)
	root := makes(t, s, x, 2)
	want := pairs{}
	for i := range 40 {
		name, text := spelt(i*7%40), spelt(i)[i:]
		k, v := roomy(name), roomy(text)
		fine(t, tree.Put(s, x, root, k, v))
		unchanged(t, k, name)
		unchanged(t, v, text)
		clear(k[:cap(k)])
		clear(v[:cap(v)])
		want[name] = text
		holds(t, s, root, want)
		fine(t, s.Commit(x))
		x = begin(t, s)
	}
	for i := range 40 {
		name := spelt(i * 11 % 40)
		k, from, to := roomy(name), roomy(spelt(i)), roomy(spelt(i+9))
		a := asked(t, s, root, k, from, to)
		a.spoil()
		unchanged(t, from, spelt(i))
		unchanged(t, to, spelt(i+9))
		unchanged(t, k, name)
		if ok, e := tree.Del(s, x, root, k); !ok || e != api.OK {
			t.Fatalf("Del is %v, %d", ok, e)
		}
		unchanged(t, k, name)
		delete(want, name)
		holds(t, s, root, want)
		fine(t, s.Commit(x))
		x = begin(t, s)
	}
}

// One text as key and value, and as both ends.
func TestOneTextTwice(t *testing.T) {
	s, _ := ready(t, 512, 64)
	x := begin(t, s)
	root := makes(t, s, x, 1)
	k := roomy("same")
	fine(t, tree.Put(s, x, root, k, k))
	unchanged(t, k, "same")
	holds(t, s, root, pairs{"same": "same"})
	if asked(t, s, root, k, k, nil).spoil() {
		t.Fatal("two lists are one")
	}
	if keys, _, e := tree.Range(s, root, k, k); len(keys) > 0 || e != api.OK {
		t.Fatalf("Range is %q, %d", keys, e)
	}
	unchanged(t, k, "same")
}
