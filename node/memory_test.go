package node_test

import (
	"bytes"
	"slices"
	"strings"
	"testing"

	"palimpsest/node"
)

// roomy tells the same text with spare room behind it, which is filled.
func roomy(b []byte) []byte {
	return append(bytes.Clone(b), "spare room"...)[:len(b)]
}

// roomyNode tells the same node, each list and each text with spare room behind it, which is filled.
func roomyNode(n node.Node) node.Node {
	list := func(l [][]byte) [][]byte {
		var all [][]byte
		for _, b := range l {
			all = append(all, roomy(b))
		}
		return append(all, roomy([]byte("spare")), roomy(nil), roomy([]byte("spare")))[:len(l)]
	}
	n.Keys, n.Vals = list(n.Keys), list(n.Vals)
	n.Kids = append(slices.Clone(n.Kids), -7, -7, -7)[:len(n.Kids)]
	return n
}

// whole tells a text with its spare room.
func whole(b []byte) []byte { return b[:cap(b)] }

// image tells all that a node's memory holds, spare room too.
func image(n node.Node) node.Node {
	list := func(l [][]byte) [][]byte {
		var all [][]byte
		for _, b := range l[:cap(l)] {
			all = append(all, bytes.Clone(whole(b)))
		}
		return all
	}
	n.Keys, n.Vals = list(n.Keys), list(n.Vals)
	n.Kids = slices.Clone(n.Kids[:cap(n.Kids)])
	return n
}

// answer is what a call told: nodes and texts.
type answer struct {
	nodes []node.Node
	texts [][]byte
}

// spoil writes over all of an answer, spare room too, and tells whether what is written into one list shows in another.
func (a answer) spoil() (shared bool) {
	all := slices.Clone(a.texts)
	var lists [][][]byte
	var kids [][]int
	for _, n := range a.nodes {
		all = append(all, slices.Concat(n.Keys[:cap(n.Keys)], n.Vals[:cap(n.Vals)])...)
		lists = append(lists, n.Keys, n.Vals)
		kids = append(kids, n.Kids)
	}
	for i, b := range all {
		copy(whole(b), bytes.Repeat([]byte{byte(i)}, cap(b)))
	}
	for i, b := range all {
		shared = shared || !bytes.Equal(whole(b), bytes.Repeat([]byte{byte(i)}, cap(b)))
	}
	for i, l := range lists {
		for j := range l[:cap(l)] {
			l[:cap(l)][j] = []byte{byte(i)}
		}
	}
	for i, l := range lists {
		for _, b := range l[:cap(l)] {
			shared = shared || b[0] != byte(i)
		}
	}
	for i, l := range kids {
		copy(l[:cap(l)], slices.Repeat([]int{i}, cap(l)))
	}
	for i, l := range kids {
		shared = shared || !slices.Equal(l[:cap(l)], slices.Repeat([]int{i}, cap(l)))
	}
	return shared
}

// like tells whether two answers are alike.
func (a answer) like(b answer) bool {
	return slices.EqualFunc(a.nodes, b.nodes, same) && slices.EqualFunc(a.texts, b.texts, bytes.Equal)
}

// calls tells every call that tells lists, of two nodes, a key and a value.
func calls() map[string]func(n, other node.Node, k, v []byte) answer {
	return map[string]func(n, other node.Node, k, v []byte) answer{
		"Encode": func(n, _ node.Node, _, _ []byte) answer {
			p, _ := node.Encode(n)
			return answer{texts: [][]byte{p}}
		},
		"Decode": func(n, _ node.Node, _, _ []byte) answer {
			p, _ := node.Encode(n)
			before := bytes.Clone(whole(p))
			m, _ := node.Decode(p)
			if !bytes.Equal(whole(p), before) {
				panic("Decode changed what it was handed")
			}
			return answer{nodes: []node.Node{m}, texts: [][]byte{p}} // the page is held against the node
		},
		"Put": func(n, _ node.Node, k, v []byte) answer {
			return answer{nodes: []node.Node{node.Put(n, k, v)}}
		},
		"Put of one text as both": func(n, _ node.Node, k, _ []byte) answer {
			return answer{nodes: []node.Node{node.Put(n, k, k)}}
		},
		"Del": func(n, _ node.Node, k, _ []byte) answer {
			m, _ := node.Del(n, k)
			return answer{nodes: []node.Node{m}}
		},
		"Split": func(n, _ node.Node, _, _ []byte) answer {
			l, k, r := node.Split(n)
			return answer{nodes: []node.Node{l, r}, texts: [][]byte{k}}
		},
		"Merge": func(n, other node.Node, k, _ []byte) answer {
			return answer{nodes: []node.Node{node.Merge(n, k, other)}}
		},
		"Merge with itself": func(n, _ node.Node, k, _ []byte) answer {
			return answer{nodes: []node.Node{node.Merge(n, k, n)}}
		},
		"Find and Size": func(n, _ node.Node, k, _ []byte) answer {
			node.Find(n, k)
			node.Size(n)
			return answer{}
		},
	}
}

// samples tells nodes of all kinds, right and wrong.
func samples() []node.Node {
	one := roomy([]byte("a"))
	l := []node.Node{
		leaf(7, "a", "1", "bc", "", "d", "33"), leaf(0, "a", "1"), leaf(3), leaf(0, "", "", "b", "2"),
		inner("a b c", 1, 2, 3, 4), inner("a", 1, 2), inner("", 1), inner("a b", 1, 2, 3),
		filled(true, 20), filled(false, 20), leaf(0, "b", "1", "a", strings.Repeat("v", 200)), inner("a b", -1, 2),
		{Leaf: true, Keys: texts("a", "b")}, {Leaf: true, Keys: texts("a"), Vals: texts("1"), Kids: []int{5}},
		{Keys: texts("a", "b"), Vals: texts("1"), Kids: []int{1, 2, 3}}, {},
	}
	for i, n := range l {
		l[i] = roomyNode(n)
	}
	// One text in many places, and one list as two.
	twice := [][]byte{one, one, one}
	return append(l, node.Node{Leaf: true, Keys: twice, Vals: twice}, node.Node{Keys: twice, Kids: []int{1, 2, 3, 4}})
}

// TestMemory: no call changes what it is handed, or tells memory that it was handed, that it tells elsewhere, or that it keeps.
func TestMemory(t *testing.T) { // 12.5, DOC's rule 3
	for name, call := range calls() {
		for i, n := range samples() {
			for j, other := range samples() {
				for _, text := range []string{"", "a", "b", "bb", "z"} {
					k, v := roomy([]byte(text)), roomy([]byte("value"))
					handed := []node.Node{image(n), image(other)}
					first, second := call(n, other, k, v), call(n, other, k, v)
					if !first.like(second) {
						t.Fatalf("%s of %d and %d tells one thing and another", name, i, j)
					}
					was := call(n, other, k, v)
					if first.spoil() {
						t.Fatalf("%s of %d and %d tells two lists in one memory", name, i, j)
					}
					if !second.like(was) {
						t.Fatalf("%s of %d and %d tells memory that it told before", name, i, j)
					}
					if !same(image(n), handed[0]) || !same(image(other), handed[1]) || string(whole(k)[:len(text)+10]) != text+"spare room" || string(whole(v)[:15]) != "valuespare room" {
						t.Fatalf("%s of %d and %d changed what it was handed, or told it", name, i, j)
					}
				}
			}
		}
	}
}

// TestNothingIsKept: what is changed behind a call makes no difference to what it told.
func TestNothingIsKept(t *testing.T) { // DOC's rule 3
	for name, call := range calls() {
		for i := range samples() {
			n, other, k, v := samples()[i], samples()[0], roomy([]byte("b")), roomy([]byte("value"))
			got, want := call(n, other, k, v), call(samples()[i], samples()[0], roomy([]byte("b")), roomy([]byte("value")))
			answer{nodes: []node.Node{n, other}, texts: [][]byte{k, v}}.spoil()
			if !got.like(want) {
				t.Fatalf("%s of %d has kept what it was handed", name, i)
			}
		}
	}
}
