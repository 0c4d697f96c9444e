package tree

import (
	"maps"
	"slices"

	"palimpsest/api"
	"palimpsest/node"
	"palimpsest/patch"
	"palimpsest/space"
	"palimpsest/store"
)

// work is what a call is about to do to a tree: nodes for pages, and pages that the tree needs no more.
type work struct {
	s     *store.Store
	t     int
	nodes map[int]node.Node
	spare []int
}

// page tells a page for a new node.
func (w *work) page() (int, api.Errno) {
	if last := len(w.spare) - 1; last >= 0 {
		p := w.spare[last]
		w.spare = w.spare[:last]
		return p, api.OK
	}
	return space.Take(w.s, w.t)
}

// lay makes the halves of a node the nodes of two pages, and tells the key between them.
func (w *work) lay(n node.Node, left, right int) []byte {
	l, k, r := cut(n)
	if l.Leaf {
		l.Next = right
	}
	w.nodes[left], w.nodes[right] = l, r
	return k
}

// split makes two of a node that is too great for its page, and tells what becomes of the one above it.
func (w *work) split(above step, n node.Node) (node.Node, api.Errno) {
	p, e := w.page()
	if e != api.OK {
		return node.Node{}, e
	}
	k := w.lay(n, above.node.Kids[above.place], p)
	return withKid(above.node, above.place, k, p), api.OK
}

// join makes one of two nodes beside each other, and tells what becomes of the one above them. If a page has no room for it, it is cut elsewhere than it was.
func (w *work) join(above step, place int, both node.Node) node.Node {
	left, right := above.node.Kids[place], above.node.Kids[place+1]
	if node.Size(both) > api.PageData {
		return withKey(above.node, place, w.lay(both, left, right))
	}
	w.nodes[left] = both
	w.spare = append(w.spare, right)
	return withoutKid(above.node, place)
}

// top makes n the root. Its page stays: if n is too great, its halves go below it; if it has but one kid, that goes into it.
func (w *work) top(root int, n node.Node) api.Errno {
	if node.Size(n) > api.PageData {
		left, e := w.page()
		if e != api.OK {
			return e
		}
		right, e := w.page()
		if e != api.OK {
			return e
		}
		n = node.Node{Keys: [][]byte{w.lay(n, left, right)}, Kids: []int{left, right}}
	}
	if len(n.Kids) == 1 {
		kid := n.Kids[0] // two have just joined to it
		n = w.nodes[kid]
		delete(w.nodes, kid)
		w.spare = append(w.spare, kid)
	}
	w.nodes[root] = n
	return api.OK
}

// finish does the work.
func (w *work) finish() api.Errno {
	for _, p := range slices.Sorted(maps.Keys(w.nodes)) {
		b, e := node.Encode(w.nodes[p])
		if e != api.OK {
			return e
		}
		if e := patch.Page(w.s, w.t, p, b); e != api.OK {
			return e
		}
	}
	for _, p := range w.spare { // each by itself: between two of them may lie one that another transaction has just taken
		if e := space.Give(w.s, w.t, p); e != api.OK {
			return e
		}
	}
	return api.OK
}
