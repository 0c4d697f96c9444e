package node_test

import (
	"bytes"
	"encoding/hex"
	"math"
	"slices"
	"strings"
	"testing"

	"palimpsest/api"
	"palimpsest/node"
)

// spell tells the bytes that are told by digits, or by letters between quotes.
func spell(t *testing.T, s string) []byte {
	t.Helper()
	var b []byte
	for i, part := range strings.Split(s, "'") {
		if i%2 == 1 {
			b = append(b, part...)
			continue
		}
		x, e := hex.DecodeString(strings.Join(strings.Fields(part), ""))
		if e != nil {
			t.Fatal(e)
		}
		b = append(b, x...)
	}
	return b
}

// page tells the page that begins with these bytes, with noughts behind.
func page(front []byte) []byte {
	return append(slices.Clone(front), make([]byte, 504-len(front))...)
}

// fails wants Encode to tell an error, and nothing beside it.
func fails(t *testing.T, what string, n node.Node, want api.Errno) {
	t.Helper()
	if p, e := node.Encode(n); e != want || p != nil {
		t.Fatalf("%s: Encode tells error %d and %d bytes, want error %d", what, e, len(p), want)
	}
}

// wrong wants p to be no node's page.
func wrong(t *testing.T, what string, p []byte) {
	t.Helper()
	n, ok := node.Decode(p)
	if ok || n.Leaf || n.Keys != nil || n.Vals != nil || n.Kids != nil || n.Next != 0 {
		t.Fatalf("%s: Decode(%X) = %s, %v", what, p, show(n), ok)
	}
}

// holds wants p to be the page of n, there and back.
func holds(t *testing.T, what string, n node.Node, p []byte) {
	t.Helper()
	q, e := node.Encode(n)
	if e != api.OK || !bytes.Equal(q, p) {
		t.Fatalf("%s: Encode: error %d, %X\nwant %X", what, e, q, p)
	}
	m, ok := node.Decode(p)
	if !ok {
		t.Fatalf("%s: Decode(%X): false", what, p)
	}
	is(t, what, m, n)
}

func TestLayout(t *testing.T) { // 12.1
	k, v := strings.Repeat("k", 100), strings.Repeat("v", 100)
	for _, c := range []struct {
		what  string
		n     node.Node
		front string
	}{
		{"an empty leaf", node.Node{Leaf: true}, "01 0000 00000000"},
		{"an empty leaf with a Next", leaf(0x01020304), "01 0000 01020304"},
		{"an empty leaf with the greatest Next", leaf(1<<32 - 1), "01 0000 FFFFFFFF"},
		{"a leaf with a pair", leaf(7, "a", "1"), "01 0001 00000007 0001'a' 0001'1'"},
		{"a leaf with three pairs", leaf(7, "a", "1", "bc", "2", "d", "33"), "01 0003 00000007 0001'a' 0001'1' 0002'bc' 0001'2' 0001'd' 0002'33'"},
		{"a key of no bytes", leaf(0, "", "1"), "01 0001 00000000 0000 0001'1'"},
		{"a value of no bytes", leaf(0, "a", ""), "01 0001 00000000 0001'a' 0000"},
		{"neither of any bytes", leaf(0, "", ""), "01 0001 00000000 0000 0000"},
		{"keys of noughts", leaf(0, "", "", "\x00", "\x00", "\x00\x00", ""), "01 0003 00000000 0000 0000 0001 00 0001 00 0002 0000 0000"},
		{"the greatest key and value", leaf(0, k, v), "01 0001 00000000 0064'" + k + "' 0064'" + v + "'"},
		{"an inner node without a key", inner("", 0x01020304), "02 0000 00000000 01020304"},
		{"an inner node of kid 0", inner("", 0), "02 0000 00000000 00000000"},
		{"an inner node with a key", inner("a", 1, 2), "02 0001 00000000 00000001 0001'a' 00000002"},
		{"an inner node with three keys", inner("a bc d", 1<<32-1, 0, 258, 3), "02 0003 00000000 FFFFFFFF 0001'a' 00000000 0002'bc' 00000102 0001'd' 00000003"},
		{"an inner node with a key of no bytes", node.Node{Keys: texts(""), Kids: []int{1, 2}}, "02 0001 00000000 00000001 0000 00000002"},
		{"an inner node with the greatest key", inner(k, 1, 1), "02 0001 00000000 00000001 0064'" + k + "' 00000001"},
	} {
		front := spell(t, c.front)
		holds(t, c.what, c.n, page(front))
		if node.Size(c.n) != len(front) {
			t.Errorf("%s: Size %d, want %d", c.what, node.Size(c.n), len(front))
		}
	}
}

func TestNilAndEmpty(t *testing.T) { // 12.1, DOC's rule 1
	none := [][]byte{}
	holds(t, "a leaf of empty lists", node.Node{Leaf: true, Keys: none, Vals: none, Kids: []int{}}, page(spell(t, "01 0000 00000000")))
	holds(t, "an inner node of empty lists", node.Node{Keys: none, Vals: none, Kids: []int{9}}, page(spell(t, "02 0000 00000000 00000009")))
	holds(t, "a nil key and a nil value", node.Node{Leaf: true, Keys: [][]byte{nil}, Vals: [][]byte{nil}}, page(spell(t, "01 0001 00000000 0000 0000")))
}

// TestLengths: of keys and values at each place of a node.
func TestLengths(t *testing.T) { // 12.1
	for _, size := range []int{0, 1, 99, 100, 101, 102, 255, 256, 65636, 1 << 17} { // 65636: two bytes would tell it as 100
		for at := range 3 {
			k := []byte{byte(at)}
			if at == 0 && size == 0 {
				k = nil
			} else {
				k = append(k, make([]byte, max(size-1, 0))...)
			}
			n := node.Node{Leaf: true, Keys: [][]byte{{0}, {1}, {2}}, Vals: texts("x", "", "z")}
			n.Keys[at] = k
			m := node.Node{Keys: n.Keys, Kids: []int{1, 2, 3, 4}}
			v := node.Node{Leaf: true, Keys: texts("a", "b", "c"), Vals: texts("x", "", "z")}
			v.Vals[at] = bytes.Repeat([]byte("v"), size)
			for _, x := range []node.Node{n, m, v} {
				if size > 100 {
					fails(t, "a text too long", x, api.ErrArg)
					continue
				}
				holds(t, "a text of a length", x, laid(x))
			}
		}
	}
}

// great tells leaves and inner nodes of just so many bytes.
func great(size int) []node.Node {
	long := strings.Repeat("x", 100)
	few := leaf(3, "a"+long[:99], long, "b"+long[:99], long, "c", "")
	few.Vals[2] = bytes.Repeat([]byte("v"), size-node.Size(few))
	keyed := leaf(3, "a"+long[:99], long, "b"+long[:99], long, "c", "")
	keyed.Keys[2] = append([]byte("c"), bytes.Repeat([]byte("k"), size-node.Size(keyed))...)
	many, kids := node.Node{Leaf: true}, node.Node{Kids: []int{1}}
	for i := range 98 {
		many.Keys, many.Vals = append(many.Keys, []byte{byte(i)}), append(many.Vals, nil)
	}
	many.Vals[50] = bytes.Repeat([]byte("v"), size-node.Size(many))
	for i := range 70 {
		kids.Keys, kids.Kids = append(kids.Keys, []byte{byte(i)}), append(kids.Kids, i)
	}
	kids.Keys[69] = append([]byte{69}, bytes.Repeat([]byte("k"), size-node.Size(kids))...)
	wide := inner("a"+long[:99]+" b"+long[:99]+" c"+long[:99]+" d"+long[:99]+" e", 1, 2, 3, 4, 5, 6)
	wide.Keys[4] = append([]byte("e"), bytes.Repeat([]byte("k"), size-node.Size(wide))...)
	return []node.Node{few, keyed, many, kids, wide}
}

func TestJustFull(t *testing.T) { // 12.1
	for i, n := range great(504) {
		p, e := node.Encode(n)
		if node.Size(n) != 504 || e != api.OK || len(p) != 504 {
			t.Fatal(i, node.Size(n), e)
		}
		holds(t, "just full", n, laid(n))
	}
	for _, more := range []int{505, 506, 510, 515} {
		for i, n := range great(more) {
			if node.Size(n) != more {
				t.Fatal(i, node.Size(n))
			}
			fails(t, "too great", n, api.ErrFull)
		}
	}
	for _, count := range []int{1000, 1<<16 - 1, 1 << 16, 1<<16 + 1} { // two bytes would tell some as few
		for _, isLeaf := range []bool{true, false} {
			n := node.Node{Leaf: isLeaf}
			for i := range count {
				n.Keys = append(n.Keys, []byte{byte(i >> 16), byte(i >> 8), byte(i)})
			}
			want := 7 + count*7
			if isLeaf {
				n.Vals = make([][]byte, count)
			} else {
				n.Kids, want = make([]int, count+1), 11+count*9
			}
			fails(t, "many keys", n, api.ErrFull)
			if node.Size(n) != want {
				t.Errorf("Size %d, want %d", node.Size(n), want)
			}
		}
	}
}

func TestKeysRise(t *testing.T) { // 12.1
	for _, c := range []struct {
		keys []string
		ok   bool
	}{
		{[]string{"a", "b"}, true},
		{[]string{"a", "a"}, false},
		{[]string{"b", "a"}, false},
		{[]string{"", "a"}, true},
		{[]string{"", ""}, false},
		{[]string{"a", ""}, false},
		{[]string{"a", "ab", "abc", "b"}, true},
		{[]string{"ab", "a"}, false},
		{[]string{"a", "a\x00", "a\x00\x00", "a\x01"}, true},
		{[]string{"a\x00", "a"}, false},
		{[]string{"", "\x00", "\x00\x00", "\x01", "\x7F", "\x80", "\xFF", "\xFF\x00"}, true},
		{[]string{"\x80", "\x7F"}, false},
		{[]string{"Z", "a"}, true},
		{[]string{"b", "aaaa"}, false},
		{[]string{"aaaa", "b"}, true},
		{[]string{"\xC3\xA9", "z"}, false},
		{[]string{"a", "b", "c", "c"}, false},
		{[]string{"a", "b", "d", "c"}, false},
		{[]string{"a", "c", "b", "d"}, false},
		{[]string{"b", "a", "c", "d"}, false},
		{[]string{"a", "b", "a"}, false},
		{[]string{strings.Repeat("x", 99) + "a", strings.Repeat("x", 99) + "b"}, true},
		{[]string{strings.Repeat("x", 100), strings.Repeat("x", 100)}, false},
		{[]string{strings.Repeat("x", 99) + "b", strings.Repeat("x", 99) + "a"}, false},
	} {
		n := node.Node{Leaf: true, Keys: texts(c.keys...), Vals: make([][]byte, len(c.keys))}
		m := node.Node{Keys: texts(c.keys...), Kids: make([]int, len(c.keys)+1)}
		for _, x := range []node.Node{n, m} {
			if c.ok {
				holds(t, "keys that rise", x, laid(x))
				continue
			}
			fails(t, "keys that do not rise", x, api.ErrArg)
			wrong(t, "keys that do not rise", laid(x))
		}
	}
}

func TestListsOfWrongLengths(t *testing.T) { // 12.1
	for i, n := range []node.Node{
		{Leaf: true, Keys: texts("a")},
		{Leaf: true, Keys: texts("a", "b"), Vals: texts("1")},
		{Leaf: true, Keys: texts("a", "b"), Vals: texts("1", "2", "3")},
		{Leaf: true, Vals: texts("1")},
		{Leaf: true, Vals: texts("")},
		{Leaf: true, Kids: []int{1}},
		{Leaf: true, Kids: []int{0}},
		{Leaf: true, Keys: texts("a"), Vals: texts("1"), Kids: []int{1}},
		{Leaf: true, Keys: texts("a"), Vals: texts("1"), Kids: []int{1, 2}},
		{Leaf: true, Keys: texts("a"), Kids: []int{1, 2}},
		{},
		{Keys: texts("a")},
		{Keys: texts("a"), Kids: []int{1}},
		{Keys: texts("a"), Kids: []int{1, 2, 3}},
		{Keys: texts("a", "b"), Kids: []int{1, 2}},
		{Kids: []int{1, 2}},
		{Kids: []int{1}, Vals: texts("1")},
		{Kids: []int{1}, Vals: texts("")},
		{Keys: texts("a"), Kids: []int{1, 2}, Vals: texts("1")},
		{Keys: texts("a"), Vals: texts("1")},
		{Keys: texts("a"), Vals: texts("1"), Kids: []int{1}},
	} {
		if p, e := node.Encode(n); p != nil || e != api.ErrArg {
			t.Errorf("%d: %d bytes, error %d", i, len(p), e)
		}
	}
}

func TestNumbers(t *testing.T) { // 12.1
	for _, x := range []int{0, 1, 255, 256, 1 << 16, 1 << 24, 1 << 31, 1<<32 - 2, 1<<32 - 1} {
		n := leaf(x, "a", "1")
		holds(t, "a Next", n, laid(n))
		for at := range 4 {
			m := inner("a b c", 1, 2, 3, 4)
			m.Kids[at] = x
			holds(t, "a kid", m, laid(m))
		}
	}
	for _, x := range []int{-1, -2, -1 << 32, 1 << 32, 1<<32 + 1, 1 << 33, math.MinInt, math.MaxInt} {
		fails(t, "a Next", leaf(x, "a", "1"), api.ErrArg)
		fails(t, "an empty leaf's Next", leaf(x), api.ErrArg)
		fails(t, "the only kid", inner("", x), api.ErrArg)
		for at := range 4 {
			m := inner("a b c", 1, 2, 3, 4)
			m.Kids[at] = x
			fails(t, "a kid", m, api.ErrArg)
		}
	}
}

func TestInnerNext(t *testing.T) { // 12.1
	for _, x := range []int{1, 2, 256, 1 << 31, 1<<32 - 1, -1, 1 << 32, math.MinInt, math.MaxInt} {
		for _, n := range []node.Node{inner("", 1), inner("a", 1, 2)} {
			n.Next = x
			fails(t, "an inner node's Next", n, api.ErrArg)
		}
	}
}

// TestBothErrors: of a node that is wrong and too great.
func TestBothErrors(t *testing.T) { // 12.1, DOC's rule 5
	for _, n := range great(505) {
		last := len(n.Keys) - 1
		for i, change := range []func(m *node.Node){
			func(m *node.Node) { m.Next = -1 },
			func(m *node.Node) { m.Next = 1 << 32 },
			func(m *node.Node) { m.Vals = append(m.Vals, nil) },
			func(m *node.Node) { m.Kids = append(m.Kids, 5) },
			func(m *node.Node) { m.Keys[last], m.Keys[last-1] = m.Keys[last-1], m.Keys[last] },
			func(m *node.Node) { m.Keys[last] = m.Keys[last-1] },
			func(m *node.Node) { m.Keys[last] = bytes.Repeat([]byte("\xFF"), 101) },
			func(m *node.Node) { m.Leaf = !m.Leaf },
			func(m *node.Node) { m.Keys = append(m.Keys, []byte("\xFF")) },
			func(m *node.Node) {
				if m.Leaf {
					m.Vals[last] = make([]byte, 101)
				} else {
					m.Kids[last] = -1
				}
			},
		} {
			m := n
			m.Keys, m.Vals, m.Kids = slices.Clone(n.Keys), slices.Clone(n.Vals), slices.Clone(n.Kids)
			change(&m)
			if p, e := node.Encode(m); p != nil || e != api.ErrArg {
				t.Errorf("change %d: %d bytes, error %d", i, len(p), e)
			}
		}
	}
	odd := great(505)[3]
	odd.Next = 1
	fails(t, "an inner node's Next", odd, api.ErrArg)
}

// TestSizeOfWrongNodes: Size goes by the keys.
func TestSizeOfWrongNodes(t *testing.T) { // 12.1, 12.5
	for _, c := range []struct {
		n    node.Node
		want int
	}{
		{node.Node{}, 11},
		{node.Node{Leaf: true, Keys: texts("ab")}, 7 + 6},
		{node.Node{Leaf: true, Keys: texts("ab", "c"), Vals: texts("xyz")}, 7 + 6 + 3 + 5},
		{node.Node{Leaf: true, Keys: texts("ab"), Vals: texts("xyz", "uvw")}, 7 + 6 + 3},
		{node.Node{Leaf: true, Vals: texts("xyz")}, 7},
		{node.Node{Leaf: true, Kids: []int{1, 2}}, 7},
		{node.Node{Keys: texts("ab")}, 11 + 8},
		{node.Node{Keys: texts("ab"), Kids: []int{1, 2, 3}, Vals: texts("xyz")}, 11 + 8},
		{node.Node{Kids: []int{1, 2, 3}}, 11},
		{leaf(-1, "b", "1", "a", "2"), 7 + 12},
		{leaf(0, strings.Repeat("k", 1000), strings.Repeat("v", 1000)), 7 + 4 + 2000},
		{inner("b a", -1, 1<<40, 3), 11 + 14},
	} {
		if got := node.Size(c.n); got != c.want {
			t.Errorf("Size(%s) = %d, want %d", show(c.n), got, c.want)
		}
	}
}

func TestOtherLengths(t *testing.T) { // 12.1
	for _, n := range []node.Node{{Leaf: true}, leaf(7, "a", "1"), inner("a b", 1, 2, 3), great(504)[0], great(504)[3]} {
		p, _ := node.Encode(n)
		for size := range 504 {
			wrong(t, "cut short", p[:size])
			wrong(t, "cut short, the others out of reach", p[:size:size])
		}
		for _, more := range []int{1, 7, 8, 504} {
			wrong(t, "noughts too many", append(slices.Clone(p), make([]byte, more)...))
			wrong(t, "noughts ahead", append(make([]byte, more), p...))
		}
		wrong(t, "twice", append(slices.Clone(p), p...))
	}
	wrong(t, "nil", nil)
	wrong(t, "nothing", []byte{})
	wrong(t, "noughts alone", make([]byte, 504))
	wrong(t, "a page with its last eight bytes", make([]byte, 512))
}

func TestFirstBytes(t *testing.T) { // 12.1
	for _, front := range []string{"00 0000 00000000", "00 0001 00000000 0001'a' 0001'1'", "00 0001 00000000 00000001 0001'a' 00000002"} {
		p := page(spell(t, front))
		for i := range 256 {
			p[0] = byte(i)
			if i != 1 && i != 2 {
				wrong(t, "a first byte that is neither", p)
			}
		}
	}
}

func TestNoPage(t *testing.T) { // 12.1: each line ails in one way
	k := strings.Repeat("k", 101)
	for _, c := range []struct{ what, front string }{
		{"a key more than there are", "01 0002 00000000 0001'a' 0001'1'"},
		{"a key fewer than there are", "01 0001 00000000 0001'a' 0001'1' 0001'b' 0001'2'"},
		{"no keys, but bytes", "01 0000 00000000 0001'a' 0001'1'"},
		{"a count of its highest byte", "01 0100 00000000 0001'a' 0001'1'"},
		{"many keys of no bytes", "01 0002 00000000 0000 0000 0000 0000"},
		{"as many keys of no bytes as fit", "01 007C 00000000"},
		{"more keys than fit", "01 007D 00000000"},
		{"far more keys than fit", "01 FFFF 00000000"},
		{"a key beyond the page", "01 0001 00000000 01F1'a'"},
		{"a key up to the page's end", "01 0001 00000000 01EF'a'"},
		{"a key far beyond the page", "01 0001 00000000 FFFF'a'"},
		{"a value beyond the page", "01 0001 00000000 0001'a' 01ED'1'"},
		{"a value up to the page's end", "01 0001 00000000 0001'a' 01EC'1'"},
		{"a value far beyond the page", "01 0001 00000000 0001'a' FFFF'1'"},
		{"a key of 101 bytes", "01 0001 00000000 0065'" + k + "' 0001'1'"},
		{"a value of 101 bytes", "01 0001 00000000 0001'a' 0065'" + k + "'"},
		{"an inner node's key of 101 bytes", "02 0001 00000000 00000001 0065'" + k + "' 00000002"},
		{"a length of its highest byte", "01 0001 00000000 0100'a' 0001'1'"},
		{"keys that fall", "01 0002 00000000 0001'b' 0001'1' 0001'a' 0001'2'"},
		{"keys that are alike", "01 0002 00000000 0001'a' 0001'1' 0001'a' 0001'2'"},
		{"keys that begin alike and fall", "01 0002 00000000 0002'ab' 0001'1' 0001'a' 0001'2'"},
		{"an inner node's keys that fall", "02 0002 00000000 00000001 0001'b' 00000002 0001'a' 00000003"},
		{"an inner node's keys that are alike", "02 0002 00000000 00000001 0001'a' 00000002 0001'a' 00000003"},
		{"an inner node's key more", "02 0002 00000000 00000001 0001'a' 00000002 0000 00000000"},
		{"an inner node with more keys than fit", "02 0053 00000000"},
		{"an inner node with far more keys than fit", "02 FFFF 00000000"},
		{"an inner node's key beyond the page", "02 0001 00000000 00000001 01ED'a'"},
		{"an inner node's key up to the page's end", "02 0001 00000000 00000001 01EB'a'"},
		{"an inner node's Next", "02 0000 00000001 00000001"},
		{"an inner node's Next of its highest byte", "02 0001 01000000 00000001 0001'a' 00000002"},
		{"a byte behind no key", "01 0000 00000000 01"},
		{"a byte behind the last value", "01 0001 00000000 0001'a' 0001'1' 01"},
		{"a byte behind the only kid", "02 0000 00000000 00000001 01"},
		{"a byte behind the last kid", "02 0001 00000000 00000001 0001'a' 00000002 01"},
		{"a leaf's bytes as an inner node's", "02 0001 00000000 0001'a' 0001'1'"},
		{"an inner node's bytes as a leaf's", "01 0001 00000000 00000001 0001'a' 00000002"},
	} {
		wrong(t, c.what, page(spell(t, c.front)))
	}
}

// TestBehindTheLast: not one byte behind what a node needs is another than a nought.
func TestBehindTheLast(t *testing.T) { // 12.1
	for _, n := range []node.Node{{Leaf: true}, leaf(7, "a", "1", "bc", ""), inner("", 5), inner("a bc", 1, 2, 3), great(503)[0], great(503)[4]} {
		p, _ := node.Encode(n)
		for i := node.Size(n); i < 504; i++ {
			for _, x := range []byte{1, 0x80, 0xFF} {
				q := slices.Clone(p)
				q[i] = x
				wrong(t, "a byte behind the last", q)
			}
		}
	}
}
