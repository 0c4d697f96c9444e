package node

import (
	"bytes"

	"palimpsest/api"
)

const (
	leafKind   = 1
	innerKind  = 2
	kindSize   = 1
	countSize  = 2
	placeSize  = 4 // of a page's number: Next, or a kid
	headSize   = kindSize + countSize + placeSize
	lengthSize = 2
	longest    = 100       // bytes of a key, and of a value
	greatest   = 1<<32 - 1 // of a page's number
)

// Encode tells a node's page.
func Encode(n Node) ([]byte, api.Errno) {
	if !sound(n) {
		return nil, api.ErrArg
	}
	if Size(n) > api.PageData {
		return nil, api.ErrFull
	}
	p := make([]byte, 0, api.PageData)
	p = addNumber(p, kindOf(n), kindSize)
	p = addNumber(p, len(n.Keys), countSize)
	p = addNumber(p, n.Next, placeSize)
	if n.Leaf {
		p = addPairs(p, n)
	} else {
		p = addKids(p, n)
	}
	return append(p, make([]byte, api.PageData-len(p))...), api.OK
}

// Decode tells the node whose page p is. It minds every byte, so that no other page tells the same node.
func Decode(p []byte) (Node, bool) {
	var n Node
	var kind, count int
	f := reader{rest: p}
	if len(p) != api.PageData {
		goto wrong
	}
	if !f.number(&kind, kindSize) {
		goto wrong
	}
	if kind != leafKind && kind != innerKind {
		goto wrong
	}
	n.Leaf = kind == leafKind
	if !f.number(&count, countSize) {
		goto wrong
	}
	if !f.number(&n.Next, placeSize) {
		goto wrong
	}
	if !n.Leaf && !f.kid(&n.Kids) {
		goto wrong
	}
	for range count { // no room is made by the count: one that lies ends where the bytes end
		if !f.text(&n.Keys) {
			goto wrong
		}
		if n.Leaf && !f.text(&n.Vals) {
			goto wrong
		}
		if !n.Leaf && !f.kid(&n.Kids) {
			goto wrong
		}
	}
	if !sound(n) {
		goto wrong
	}
	if !f.noughts() {
		goto wrong
	}
	return n, true
wrong:
	return Node{}, false
}

// Size tells how many bytes of a page a node needs. It counts what stands by the keys: a value that lacks has no bytes, and one without a key has no place.
func Size(n Node) int {
	size := headSize
	if !n.Leaf {
		size += placeSize
	}
	for i, k := range n.Keys {
		size += lengthSize + len(k)
		if !n.Leaf {
			size += placeSize
			continue
		}
		size += lengthSize
		if i < len(n.Vals) {
			size += len(n.Vals[i])
		}
	}
	return size
}

// sound tells whether a node could have a page, if only that had room.
func sound(n Node) bool {
	if !matched(n) {
		goto wrong
	}
	for i, k := range n.Keys {
		if len(k) > longest {
			goto wrong
		}
		if i > 0 && bytes.Compare(n.Keys[i-1], k) >= 0 {
			goto wrong
		}
	}
	for _, v := range n.Vals {
		if len(v) > longest {
			goto wrong
		}
	}
	for _, kid := range n.Kids {
		if !isPlace(kid) {
			goto wrong
		}
	}
	if !isPlace(n.Next) {
		goto wrong
	}
	if !n.Leaf && n.Next != 0 {
		goto wrong
	}
	return true
wrong:
	return false
}

func isPlace(n int) bool {
	return n >= 0 && n <= greatest
}

func kindOf(n Node) int {
	if n.Leaf {
		return leafKind
	}
	return innerKind
}

func addPairs(b []byte, n Node) []byte {
	for i, k := range n.Keys {
		b = addText(b, k)
		b = addText(b, n.Vals[i])
	}
	return b
}

func addKids(b []byte, n Node) []byte {
	b = addNumber(b, n.Kids[0], placeSize)
	for i, k := range n.Keys {
		b = addText(b, k)
		b = addNumber(b, n.Kids[i+1], placeSize)
	}
	return b
}

func addText(b, text []byte) []byte {
	return append(addNumber(b, len(text), lengthSize), text...)
}

// addNumber lays n behind b, the highest byte first.
func addNumber(b []byte, n, size int) []byte {
	for i := range size {
		b = append(b, byte(n>>(8*(size-1-i))))
	}
	return b
}

// reader takes what a page holds from the front of its bytes. Each of its steps tells whether there were bytes enough.
type reader struct {
	rest []byte
}

func (f *reader) number(into *int, size int) bool {
	if len(f.rest) < size {
		return false
	}
	n := 0
	for _, b := range f.rest[:size] {
		n = n<<8 | int(b)
	}
	*into = n
	f.rest = f.rest[size:]
	return true
}

// text takes a length and so many bytes, and lays a copy of them behind a list's texts.
func (f *reader) text(into *[][]byte) bool {
	var size int
	if !f.number(&size, lengthSize) || size > len(f.rest) {
		return false
	}
	*into = append(*into, bytes.Clone(f.rest[:size]))
	f.rest = f.rest[size:]
	return true
}

func (f *reader) kid(into *[]int) bool {
	var n int
	if !f.number(&n, placeSize) {
		return false
	}
	*into = append(*into, n)
	return true
}

// noughts tells whether nothing else is left.
func (f *reader) noughts() bool {
	for _, b := range f.rest {
		if b != 0 {
			return false
		}
	}
	return true
}
