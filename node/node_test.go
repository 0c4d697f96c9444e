package node_test

import (
	"bytes"
	"fmt"
	"math"
	"slices"
	"strings"
	"testing"

	"palimpsest/node"
)

// texts tells a list of texts.
func texts(l ...string) [][]byte {
	var all [][]byte
	for _, s := range l {
		all = append(all, []byte(s))
	}
	return all
}

// leaf tells a leaf of keys and values, told by turns.
func leaf(next int, pairs ...string) node.Node {
	n := node.Node{Leaf: true, Next: next}
	for i := 0; i < len(pairs); i += 2 {
		n.Keys = append(n.Keys, []byte(pairs[i]))
		n.Vals = append(n.Vals, []byte(pairs[i+1]))
	}
	return n
}

// inner tells an inner node of keys, parted by spaces, and kids.
func inner(keys string, kids ...int) node.Node {
	return node.Node{Keys: texts(strings.Fields(keys)...), Kids: kids}
}

// filled tells a node of so many keys of two bytes, with values or kids that tell them apart.
func filled(isLeaf bool, count int) node.Node {
	n := node.Node{Leaf: isLeaf}
	for i := range count {
		n.Keys = append(n.Keys, []byte{byte(i >> 8), byte(i)})
		if isLeaf {
			n.Vals = append(n.Vals, []byte(strings.Repeat("v", i%5)))
		} else {
			n.Kids = append(n.Kids, 100+i)
		}
	}
	if isLeaf {
		n.Next = 77
	} else {
		n.Kids = append(n.Kids, 9)
	}
	return n
}

// show spells a node for whoever reads of a fault.
func show(n node.Node) string {
	return fmt.Sprintf("{Leaf %v Keys %q Vals %q Kids %d Next %d}", n.Leaf, n.Keys, n.Vals, n.Kids, n.Next)
}

// same tells whether two nodes are alike; nil and an empty list are.
func same(a, b node.Node) bool {
	return a.Leaf == b.Leaf && a.Next == b.Next && slices.Equal(a.Kids, b.Kids) &&
		slices.EqualFunc(a.Keys, b.Keys, bytes.Equal) && slices.EqualFunc(a.Vals, b.Vals, bytes.Equal)
}

// is wants a node to be another.
func is(t *testing.T, what string, got, want node.Node) {
	t.Helper()
	if !same(got, want) {
		t.Fatalf("%s: %s\nwant %s", what, show(got), show(want))
	}
}

// splits wants a node to be split just so.
func splits(t *testing.T, what string, n, left node.Node, k string, right node.Node) {
	t.Helper()
	l, mid, r := node.Split(n)
	is(t, what+", the left one", l, left)
	is(t, what+", the right one", r, right)
	if string(mid) != k {
		t.Fatalf("%s: the key %q, want %q", what, mid, k)
	}
}

// unsplit wants a node not to be split.
func unsplit(t *testing.T, what string, n node.Node) {
	t.Helper()
	splits(t, what, n, n, "", node.Node{Leaf: true})
}

func TestExamples(t *testing.T) { // the chapter's table
	splits(t, "a leaf", leaf(0, "a", "1", "b", "2", "c", "3"), leaf(0, "a", "1"), "b", leaf(0, "b", "2", "c", "3"))
	splits(t, "an inner node", inner("a b c", 1, 2, 3, 4), inner("a", 1, 2), "b", inner("c", 3, 4))
}

func TestFind(t *testing.T) { // 12.2
	keys := texts("b", "bb", "d", "\x80", "\xFF")
	for _, n := range []node.Node{
		{Leaf: true, Keys: keys, Vals: texts("1", "2", "3", "4", "5")},
		{Keys: keys, Kids: []int{1, 2, 3, 4, 5, 6}},
		{Leaf: true, Keys: keys}, // the keys alone are minded
		{Keys: keys, Vals: texts("d")},
	} {
		for _, c := range []struct {
			k  string
			at int
			ok bool
		}{
			{"", 0, false}, {"\x00", 0, false}, {"a", 0, false}, {"azzz", 0, false},
			{"b", 0, true}, {"b\x00", 1, false}, {"ba", 1, false}, {"bb", 1, true}, {"bb\x00", 2, false}, {"c", 2, false},
			{"d", 2, true}, {"d\x00", 3, false}, {"\x7F", 3, false}, {"\x80", 3, true}, {"\x80\x00", 4, false}, {"\xFE", 4, false},
			{"\xFF", 4, true}, {"\xFF\x00", 5, false}, {"\xFF\xFF", 5, false}, {strings.Repeat("\xFF", 200), 5, false},
		} {
			if i, ok := node.Find(n, []byte(c.k)); i != c.at || ok != c.ok {
				t.Errorf("Find(%q) = %d, %v; want %d, %v", c.k, i, ok, c.at, c.ok)
			}
		}
	}
}

func TestFindInNothing(t *testing.T) { // 12.2
	for _, n := range []node.Node{{}, {Leaf: true}, {Kids: []int{7}}, {Leaf: true, Vals: texts("a")}, {Leaf: true, Keys: [][]byte{}}} {
		for _, k := range [][]byte{nil, {}, {0}, []byte("a")} {
			if i, ok := node.Find(n, k); i != 0 || ok {
				t.Errorf("Find(%q) = %d, %v", k, i, ok)
			}
		}
	}
}

func TestFindOfNoBytes(t *testing.T) { // 12.2, DOC's rule 1
	for _, none := range [][]byte{nil, {}} {
		n := node.Node{Leaf: true, Keys: [][]byte{none, []byte("a")}, Vals: texts("1", "2")}
		for _, k := range [][]byte{nil, {}} {
			if i, ok := node.Find(n, k); i != 0 || !ok {
				t.Errorf("Find(%#v) = %d, %v", k, i, ok)
			}
		}
		if i, ok := node.Find(n, []byte{0}); i != 1 || ok {
			t.Errorf("Find = %d, %v", i, ok)
		}
	}
}

// TestFindFromTheLeft: keys that do not rise are gone through from the left, not by halves.
func TestFindFromTheLeft(t *testing.T) { // 12.2
	for _, c := range []struct {
		keys, k string
		at      int
		ok      bool
	}{
		{"b a", "a", 0, false}, {"b a", "b", 0, true}, {"b a", "c", 2, false},
		{"a a", "a", 0, true}, {"a b b b", "b", 1, true},
		{"d c b a", "b", 0, false}, {"d a b c", "c", 0, false}, {"a d b c", "c", 1, false},
		{"a d b c e f g", "d", 1, true}, {"a d b c e f g", "e", 4, true}, {"a z b c e f g", "g", 1, false},
	} {
		if i, ok := node.Find(node.Node{Keys: texts(strings.Fields(c.keys)...)}, []byte(c.k)); i != c.at || ok != c.ok {
			t.Errorf("Find(%s, %s) = %d, %v; want %d, %v", c.keys, c.k, i, ok, c.at, c.ok)
		}
	}
}

func TestPut(t *testing.T) { // 12.2
	n := leaf(7, "b", "1", "d", "", "f", "333")
	for _, c := range []struct {
		k, v string
		want node.Node
	}{
		{"", "x", leaf(7, "", "x", "b", "1", "d", "", "f", "333")},
		{"a", "x", leaf(7, "a", "x", "b", "1", "d", "", "f", "333")},
		{"b\x00", "", leaf(7, "b", "1", "b\x00", "", "d", "", "f", "333")},
		{"c", "x", leaf(7, "b", "1", "c", "x", "d", "", "f", "333")},
		{"e", "x", leaf(7, "b", "1", "d", "", "e", "x", "f", "333")},
		{"g", "xy", leaf(7, "b", "1", "d", "", "f", "333", "g", "xy")},
		{"\xFF", "x", leaf(7, "b", "1", "d", "", "f", "333", "\xFF", "x")},
		{"b", "new", leaf(7, "b", "new", "d", "", "f", "333")},
		{"b", "1", n},
		{"b", "", leaf(7, "b", "", "d", "", "f", "333")},
		{"d", "22", leaf(7, "b", "1", "d", "22", "f", "333")},
		{"f", "3", leaf(7, "b", "1", "d", "", "f", "3")},
	} {
		is(t, "Put of "+c.k, node.Put(n, []byte(c.k), []byte(c.v)), c.want)
	}
	is(t, "Put of nil", node.Put(n, nil, nil), leaf(7, "", "", "b", "1", "d", "", "f", "333"))
	is(t, "Put of an empty value in a value's place", node.Put(n, []byte("f"), nil), leaf(7, "b", "1", "d", "", "f", ""))
	is(t, "Put into nothing", node.Put(node.Node{Leaf: true}, []byte("a"), []byte("1")), leaf(0, "a", "1"))
	is(t, "Put of no bytes into nothing", node.Put(node.Node{Leaf: true, Next: 5}, nil, nil), leaf(5, "", ""))
}

// TestPutOfAnySize: what a page would not hold a node holds, until it is split.
func TestPutOfAnySize(t *testing.T) { // 12.2
	long, full := strings.Repeat("k", 101), filled(true, 120)
	is(t, "a long key", node.Put(leaf(0, "a", "1"), []byte(long), []byte(long)), leaf(0, "a", "1", long, long))
	m := node.Put(full, []byte{0, 200}, []byte("v"))
	if len(m.Keys) != 121 || node.Size(m) != node.Size(full)+7 {
		t.Errorf("%d keys, Size %d", len(m.Keys), node.Size(m))
	}
	is(t, "a Next that Encode would not take", node.Put(leaf(-5, "a", "1"), []byte("b"), nil), leaf(-5, "a", "1", "b", ""))
}

// TestPutWhereFindTells: of keys that do not rise, too.
func TestPutWhereFindTells(t *testing.T) { // 12.2
	n := leaf(0, "b", "1", "a", "2", "b", "3")
	is(t, "a key that is not found", node.Put(n, []byte("a"), []byte("x")), leaf(0, "a", "x", "b", "1", "a", "2", "b", "3"))
	is(t, "the first of two alike", node.Put(n, []byte("b"), []byte("x")), leaf(0, "b", "x", "a", "2", "b", "3"))
	m, ok := node.Del(n, []byte("b"))
	is(t, "Del of the first of two alike", m, leaf(0, "a", "2", "b", "3"))
	if !ok {
		t.Error("false")
	}
	m, ok = node.Del(n, []byte("a"))
	is(t, "Del of a key that is not found", m, n)
	if ok {
		t.Error("true")
	}
}

func TestDel(t *testing.T) { // 12.2
	n := leaf(7, "", "0", "b", "1", "d", "", "f", "333")
	for _, c := range []struct {
		k    string
		want node.Node
	}{
		{"", leaf(7, "b", "1", "d", "", "f", "333")},
		{"b", leaf(7, "", "0", "d", "", "f", "333")},
		{"d", leaf(7, "", "0", "b", "1", "f", "333")},
		{"f", leaf(7, "", "0", "b", "1", "d", "")},
	} {
		m, ok := node.Del(n, []byte(c.k))
		is(t, "Del of "+c.k, m, c.want)
		if !ok {
			t.Errorf("Del of %q: false", c.k)
		}
	}
	for _, k := range []string{"\x00", "a", "b\x00", "c", "e", "g", "\xFF", "333"} {
		m, ok := node.Del(n, []byte(k))
		is(t, "Del of "+k, m, n)
		if ok {
			t.Errorf("Del of %q: true", k)
		}
	}
	m, ok := node.Del(leaf(7, "a", "1"), []byte("a"))
	is(t, "Del of the only one", m, node.Node{Leaf: true, Next: 7})
	if !ok {
		t.Error("false")
	}
	for _, k := range [][]byte{nil, {}, []byte("a")} {
		m, ok = node.Del(node.Node{Leaf: true, Next: 7}, k)
		is(t, "Del from nothing", m, node.Node{Leaf: true, Next: 7})
		if ok {
			t.Error("true")
		}
	}
}

func TestInnerStays(t *testing.T) { // 12.2
	odd := inner("a b", 1, 2, 3)
	odd.Next = 5
	for _, n := range []node.Node{inner("a b c", 1, 2, 1<<32-1, 4), inner("", 7), {}, odd, inner("b a", -1, 2, 3)} {
		for _, k := range []string{"", "0", "a", "b", "bb", "c", "d"} {
			is(t, "Put of an inner node", node.Put(n, []byte(k), []byte("v")), n)
			m, ok := node.Del(n, []byte(k))
			is(t, "Del of an inner node", m, n)
			if ok {
				t.Errorf("Del of %q: true", k)
			}
		}
	}
}

func TestSplitLeaves(t *testing.T) { // 12.3
	unsplit(t, "no key", node.Node{Leaf: true})
	unsplit(t, "no key, a Next", leaf(5))
	unsplit(t, "one key", leaf(5, "a", "1"))
	splits(t, "two keys", leaf(5, "a", "1", "b", "2"), leaf(0, "a", "1"), "b", leaf(5, "b", "2"))
	splits(t, "three keys", leaf(5, "a", "1", "b", "2", "c", "3"), leaf(0, "a", "1"), "b", leaf(5, "b", "2", "c", "3"))
	splits(t, "four keys", leaf(5, "a", "1", "b", "2", "c", "3", "d", ""), leaf(0, "a", "1", "b", "2"), "c", leaf(5, "c", "3", "d", ""))
	splits(t, "a key of no bytes", leaf(5, "", "", "b", ""), leaf(0, "", ""), "b", leaf(5, "b", ""))
	splits(t, "keys that fall", leaf(-1, "c", "1", "b", "2", "a", "3"), leaf(0, "c", "1"), "b", leaf(-1, "b", "2", "a", "3"))
}

func TestSplitInner(t *testing.T) { // 12.3
	unsplit(t, "no key", inner("", 1))
	unsplit(t, "one key", inner("a", 1, 2))
	splits(t, "two keys", inner("a b", 1, 2, 3), inner("a", 1, 2), "b", inner("", 3))
	splits(t, "three keys", inner("a b c", 1, 2, 3, 4), inner("a", 1, 2), "b", inner("c", 3, 4))
	splits(t, "four keys", inner("a b c d", 1, 2, 3, 4, 5), inner("a b", 1, 2, 3), "c", inner("d", 4, 5))
	splits(t, "five keys", inner("a b c d e", 6, 5, 4, 3, 2, 1), inner("a b", 6, 5, 4), "c", inner("d e", 3, 2, 1))
	odd, right := inner("a b c", 1, 2, 3, 4), inner("c", 3, 4)
	odd.Next, right.Next = 8, 8
	splits(t, "a Next that is not 0", odd, inner("a", 1, 2), "b", right)
	one := inner("a", 1, 2)
	one.Next = 8
	unsplit(t, "one key, and a Next that is not 0", one)
}

func TestSplitMany(t *testing.T) { // 12.3, 12.4
	for _, isLeaf := range []bool{true, false} {
		for c := range 300 {
			n := filled(isLeaf, c)
			if c < 2 {
				unsplit(t, "few keys", n)
				continue
			}
			l, k, r := node.Split(n)
			if len(l.Keys) != c/2 || l.Next != 0 || r.Next != n.Next || string(k) != string(n.Keys[c/2]) {
				t.Fatalf("%d keys: %d and %d, Next %d and %d", c, len(l.Keys), len(r.Keys), l.Next, r.Next)
			}
			if isLeaf && len(r.Keys) != c-c/2 || !isLeaf && (len(r.Keys) != c-c/2-1 || len(l.Kids) != c/2+1 || len(r.Kids) != c-c/2) {
				t.Fatalf("%d keys: %d and %d", c, len(l.Keys), len(r.Keys))
			}
			is(t, "Merge behind Split", node.Merge(l, k, r), n)
		}
	}
}

func TestMerge(t *testing.T) { // 12.3
	empty := node.Node{Leaf: true}
	is(t, "leaves", node.Merge(leaf(3, "a", "1"), []byte("b"), leaf(5, "b", "2", "c", "")), leaf(5, "a", "1", "b", "2", "c", ""))
	is(t, "leaves, whatever the key", node.Merge(leaf(3, "a", "1"), []byte("zz"), leaf(0, "b", "2")), leaf(0, "a", "1", "b", "2"))
	is(t, "leaves, no key", node.Merge(leaf(3, "a", "1"), nil, leaf(5, "b", "2")), leaf(5, "a", "1", "b", "2"))
	is(t, "leaves in whatever order", node.Merge(leaf(3, "b", "1"), nil, leaf(5, "a", "2", "b", "3")), leaf(5, "b", "1", "a", "2", "b", "3"))
	is(t, "an empty leaf ahead", node.Merge(leaf(3), []byte("b"), leaf(5, "b", "2")), leaf(5, "b", "2"))
	is(t, "an empty leaf behind", node.Merge(leaf(3, "b", "2"), nil, empty), leaf(0, "b", "2"))
	is(t, "empty leaves", node.Merge(leaf(3), nil, leaf(5)), leaf(5))
	is(t, "inner nodes", node.Merge(inner("a", 1, 2), []byte("b"), inner("c d", 3, 4, 5)), inner("a b c d", 1, 2, 3, 4, 5))
	is(t, "inner nodes without keys", node.Merge(inner("", 1), []byte("b"), inner("", 2)), inner("b", 1, 2))
	is(t, "inner nodes, whatever the key", node.Merge(inner("b", 1, 2), []byte("a"), inner("b", 3, 4)), inner("b a b", 1, 2, 3, 4))
	want := inner("", 1, 2)
	want.Keys = [][]byte{{}}
	is(t, "inner nodes, a key of no bytes", node.Merge(inner("", 1), nil, inner("", 2)), want)
	left, right := inner("a", 1, 2), inner("c", 3, 4)
	want = inner("a b c", 1, 2, 3, 4)
	left.Next, right.Next, want.Next = 3, 5, 5
	is(t, "inner nodes with a Next", node.Merge(left, []byte("b"), right), want)
}

func TestMergeOfUnlikeKinds(t *testing.T) { // 12.3
	one := leaf(7, "a", "1")
	for _, in := range []node.Node{inner("c", 1, 2), inner("", 3)} {
		is(t, "a leaf and an inner node", node.Merge(one, []byte("b"), in), one)
		is(t, "an inner node and a leaf", node.Merge(in, []byte("b"), one), in)
		is(t, "an inner node and an empty leaf", node.Merge(in, nil, node.Node{Leaf: true}), in)
		is(t, "an empty leaf and an inner node", node.Merge(node.Node{Leaf: true, Next: 3}, nil, in), leaf(3))
	}
}

func TestSplitAndMergeOfFew(t *testing.T) { // 12.3: what is not split is left as it is, but for a leaf's Next
	for _, n := range []node.Node{inner("", 1), inner("a", 1, 2), leaf(0), leaf(0, "a", "1")} {
		l, k, r := node.Split(n)
		is(t, "back together", node.Merge(l, k, r), n)
	}
	l, k, r := node.Split(leaf(5, "a", "1"))
	is(t, "a leaf with a Next", node.Merge(l, k, r), leaf(0, "a", "1"))
}

func TestWildNumbers(t *testing.T) { // 12.5: no call but Encode minds them
	for _, x := range []int{math.MinInt, -1, 1 << 32, math.MaxInt} {
		n := leaf(x, "a", "1", "b", "2")
		l, k, r := node.Split(n)
		is(t, "a leaf", node.Merge(l, k, r), n)
		m := inner("a b", x, x-1, x+1)
		l, k, r = node.Split(m)
		is(t, "an inner node", node.Merge(l, k, r), m)
		if node.Size(n) != 7+2*6 || node.Size(m) != 11+2*7 {
			t.Error(node.Size(n), node.Size(m))
		}
	}
}
