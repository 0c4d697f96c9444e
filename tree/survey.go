package tree

import (
	"bytes"

	"palimpsest/api"
	"palimpsest/node"
	"palimpsest/space"
	"palimpsest/store"
)

// spot is a node of a tree where it stands: in its page, and with its first kid's place on the level below.
type spot struct {
	page  int
	node  node.Node
	first int
}

// levels is a whole tree, from the root's level down, each level from the left.
type levels [][]spot

// survey reads a whole tree. ErrBad, if its pages are none: so no call goes by, or changes, what only seems to be one.
func survey(s *store.Store, root int) (levels, api.Errno) {
	var l levels
	var fences [][]byte // the keys between the nodes of a level
	seen := map[int]struct{}{}
	for row := []spot{{page: root}}; ; {
		for i := range row {
			if e := row[i].read(s, seen); e != api.OK {
				return nil, e
			}
		}
		l = append(l, row)
		if !alike(row) || !l.filled() {
			return nil, api.ErrBad
		}
		if row[0].node.Leaf {
			break
		}
		row, fences = below(row, fences)
	}
	leaves := l[len(l)-1]
	if !chained(leaves) || !parted(leaves, fences) {
		return nil, api.ErrBad
	}
	return l, api.OK
}

// read takes a spot's node from its page, which no other spot may have, nor the map.
func (x *spot) read(s *store.Store, seen map[int]struct{}) api.Errno {
	if _, twice := seen[x.page]; twice {
		return api.ErrBad
	}
	seen[x.page] = struct{}{}
	b, e := s.Read(x.page, 0, api.PageData)
	if e == api.ErrArg {
		return api.ErrBad
	}
	if e != api.OK {
		return e
	}
	var ok bool
	if x.node, ok = node.Decode(b); !ok || x.page < space.Maps(s.Pages()) {
		return api.ErrBad
	}
	return api.OK
}

// alike tells whether the nodes of a level are all leaves, or all inner ones.
func alike(row []spot) bool {
	for _, x := range row {
		if x.node.Leaf != row[0].node.Leaf {
			return false
		}
	}
	return true
}

// filled tells whether each node of the last level has a key. A root that is a leaf needs none.
func (l levels) filled() bool {
	row := l[len(l)-1]
	for _, x := range row {
		if len(x.node.Keys) == 0 && !(x.node.Leaf && len(l) == 1) {
			return false
		}
	}
	return true
}

// below tells the level below inner nodes, still to be read, and the keys between its nodes: those of the nodes above, and, between two of these, the key that parts them already.
func below(row []spot, fences [][]byte) ([]spot, [][]byte) {
	var kids []spot
	var keys [][]byte
	for i := range row {
		if i > 0 {
			keys = append(keys, fences[i-1])
		}
		keys = append(keys, row[i].node.Keys...)
		row[i].first = len(kids)
		for _, p := range row[i].node.Kids {
			kids = append(kids, spot{page: p})
		}
	}
	return kids, keys
}

// chained tells whether each leaf's Next is the page to its right.
func chained(leaves []spot) bool {
	for i, x := range leaves {
		right := 0
		if i+1 < len(leaves) {
			right = leaves[i+1].page
		}
		if x.node.Next != right {
			return false
		}
	}
	return true
}

// parted tells whether each key between two leaves is above all keys to its left, and at most each to its right. As each leaf has keys, these rise then from leaf to leaf, and it is so for all leaves on both sides.
func parted(leaves []spot, fences [][]byte) bool {
	for i, f := range fences {
		left, right := leaves[i].node.Keys, leaves[i+1].node.Keys
		if bytes.Compare(left[len(left)-1], f) >= 0 || bytes.Compare(f, right[0]) > 0 {
			return false
		}
	}
	return true
}
