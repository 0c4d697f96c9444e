package tree

import (
	"slices"

	"palimpsest/api"
	"palimpsest/node"
	"palimpsest/store"
)

// small is how many bytes a node has, at most, that joins with another one when it has lost some. It is far enough below a half that a node which was just split does not.
const small = api.PageData / 3

// step is a node on the way down, and the place where the way goes on: that of a kid, or a leaf's of a key.
type step struct {
	spot
	kids  []spot // the nodes of its kids
	place int
}

// way tells the way down to the leaf where a key stands or would stand, and whether it is there.
func (l levels) way(k []byte) ([]step, bool) {
	var steps []step
	x := l[0][0]
	for i := 1; ; i++ {
		place, ok := node.Find(x.node, k)
		if x.node.Leaf {
			return append(steps, step{spot: x, place: place}), ok
		}
		if ok {
			place++ // a key that parts two kids is the right one's
		}
		kids := l[i][x.first:][:len(x.node.Kids)]
		steps = append(steps, step{spot: x, kids: kids, place: place})
		x = kids[place]
	}
}

// mend makes n the leaf at the end of a way. What splits, or runs low and joins with another one, changes the node above it, and so it goes back up, to where nothing else changes. Only then the first page is written.
func mend(s *store.Store, t int, way []step, n node.Node) api.Errno {
	w := work{s: s, t: t, nodes: map[int]node.Node{}}
	var e api.Errno
	for i := len(way) - 1; i > 0; i-- {
		at, above := way[i], way[i-1]
		place, both, ok := joins(above, at, n)
		switch {
		case node.Size(n) > api.PageData:
			if n, e = w.split(above, n); e != api.OK {
				return e
			}
		case ok:
			n = w.join(above, place, both)
		default:
			w.nodes[at.page] = n
			goto known
		}
	}
	if e = w.top(way[0].page, n); e != api.OK {
		return e
	}
known:
	return w.finish()
}

// joins tells whether a node that was at joins with one beside it, now that it is n: the left one's place, and both as one node. A node without a key has to, though both may be too great for a page.
func joins(above, at step, n node.Node) (place int, both node.Node, ok bool) {
	size := node.Size(n)
	if size > small || size >= node.Size(at.node) {
		return 0, node.Node{}, false
	}
	for _, i := range []int{above.place - 1, above.place} {
		if i < 0 || i == len(above.node.Keys) {
			continue
		}
		left, right := above.kids[i].node, n
		if i == above.place {
			left, right = n, above.kids[i+1].node
		}
		m := node.Merge(left, above.node.Keys[i], right)
		if node.Size(m) <= api.PageData {
			return i, m, true
		}
		if len(n.Keys) == 0 {
			place, both, ok = i, m, true
		}
	}
	return place, both, ok
}

// withKid tells an inner node with a key and a kid behind it more.
func withKid(n node.Node, place int, k []byte, kid int) node.Node {
	n.Keys = slices.Insert(slices.Clone(n.Keys), place, k)
	n.Kids = slices.Insert(slices.Clone(n.Kids), place+1, kid)
	return n
}

// withoutKid tells an inner node with a key and the kid behind it less.
func withoutKid(n node.Node, place int) node.Node {
	n.Keys = slices.Delete(slices.Clone(n.Keys), place, place+1)
	n.Kids = slices.Delete(slices.Clone(n.Kids), place+1, place+2)
	return n
}

// withKey tells an inner node with another key at a place.
func withKey(n node.Node, place int, k []byte) node.Node {
	n.Keys = slices.Clone(n.Keys)
	n.Keys[place] = k
	return n
}
