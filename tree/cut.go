package tree

import (
	"palimpsest/node"
)

// cut tells two halves of a node that is too great for a page, and the key between them: where the greater one has the fewest bytes, for by their keys' count one of them might still be too great. Such a node has so many keys that each half gets some. Of places alike it takes the last: where keys come rising, no more of them come into the left half.
func cut(n node.Node) (left node.Node, k []byte, right node.Node) {
	best, least := 0, node.Size(n)
	for i := 1; i < len(n.Keys); i++ {
		l, _, r := cutAt(n, i)
		if size := max(node.Size(l), node.Size(r)); size <= least {
			best, least = i, size
		}
	}
	return cutAt(n, best)
}

// cutAt tells the halves of a node that is cut behind its first i keys.
func cutAt(n node.Node, i int) (left node.Node, k []byte, right node.Node) {
	if n.Leaf {
		left = node.Node{Leaf: true, Keys: n.Keys[:i], Vals: n.Vals[:i]}
		right = node.Node{Leaf: true, Keys: n.Keys[i:], Vals: n.Vals[i:], Next: n.Next}
		return left, between(n.Keys[i-1], n.Keys[i]), right
	}
	left = node.Node{Keys: n.Keys[:i], Kids: n.Kids[:i+1]}
	right = node.Node{Keys: n.Keys[i+1:], Kids: n.Kids[i+1:]}
	return left, n.Keys[i], right
}

// between tells the shortest beginning of b that is above a, which is below b: the shorter the keys of inner nodes are, the more kids these have.
func between(a, b []byte) []byte {
	i := 0
	for i < len(a) && a[i] == b[i] {
		i++
	}
	return b[:i+1]
}
