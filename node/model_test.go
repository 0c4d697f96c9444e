package node_test

import (
	"bytes"
	"encoding/binary"
	"maps"
	"math/rand"
	"slices"
	"strings"
	"testing"

	"palimpsest/api"
	"palimpsest/node"
)

// laid spells a node's page by the words of 12.1, be its keys and numbers right or not; it has noughts behind as far as the page goes.
func laid(n node.Node) []byte {
	o := binary.BigEndian
	b := []byte{2}
	if n.Leaf {
		b[0] = 1
	}
	b = o.AppendUint32(o.AppendUint16(b, uint16(len(n.Keys))), uint32(n.Next))
	if !n.Leaf {
		b = o.AppendUint32(b, uint32(n.Kids[0]))
	}
	for i, k := range n.Keys {
		b = append(o.AppendUint16(b, uint16(len(k))), k...)
		if n.Leaf {
			b = append(o.AppendUint16(b, uint16(len(n.Vals[i]))), n.Vals[i]...)
		} else {
			b = o.AppendUint32(b, uint32(n.Kids[i+1]))
		}
	}
	if len(b) < 504 {
		b = append(b, make([]byte, 504-len(b))...)
	}
	return b
}

// fits tells whether Encode would take a node's lists, by their lengths.
func fits(n node.Node) bool {
	want := [2]int{0, len(n.Keys) + 1}
	if n.Leaf {
		want = [2]int{len(n.Keys), 0}
	}
	return want == [2]int{len(n.Vals), len(n.Kids)}
}

// fault tells which error Encode has of a node.
func fault(n node.Node) api.Errno {
	bad := !fits(n) || !n.Leaf && n.Next != 0
	for _, x := range append([]int{n.Next}, n.Kids...) {
		bad = bad || uint64(x)>>32 != 0
	}
	for _, s := range slices.Concat(n.Keys, n.Vals) {
		bad = bad || len(s) > 100
	}
	var keys []string
	for _, k := range n.Keys {
		keys = append(keys, string(k))
	}
	once := slices.Compact(slices.Sorted(slices.Values(keys)))
	if bad || !slices.Equal(once, keys) {
		return api.ErrArg
	}
	if len(laid(n)) > 504 {
		return api.ErrFull
	}
	return api.OK
}

// seen tells the node whose page p is: it takes the lengths from p as they come, and looks whether the node would be laid out just so.
func seen(p []byte) (n node.Node, ok bool) {
	if len(p) != 504 {
		return node.Node{}, false
	}
	defer func() { // lengths beyond the page
		if recover() != nil {
			n, ok = node.Node{}, false
		}
	}()
	o := binary.BigEndian
	n.Leaf, n.Next = p[0] == 1, int(o.Uint32(p[3:]))
	rest := p[7:]
	if !n.Leaf {
		n.Kids, rest = append(n.Kids, int(o.Uint32(rest))), rest[4:]
	}
	for range o.Uint16(p[1:]) {
		size := int(o.Uint16(rest))
		n.Keys, rest = append(n.Keys, rest[2:2+size:2+size]), rest[2+size:]
		if !n.Leaf {
			n.Kids, rest = append(n.Kids, int(o.Uint32(rest))), rest[4:]
			continue
		}
		size = int(o.Uint16(rest))
		n.Vals, rest = append(n.Vals, rest[2:2+size:2+size]), rest[2+size:]
	}
	if fault(n) != api.OK || !bytes.Equal(laid(n), p) {
		return node.Node{}, false
	}
	return n, true
}

// asPage holds Decode against what the model sees in bytes.
func asPage(t *testing.T, what string, p []byte) bool {
	t.Helper()
	n, ok := seen(p)
	if ok {
		holds(t, what, n, p)
	} else {
		wrong(t, what, p)
	}
	return ok
}

// random tells a node that has a page: texts are of few unlike bytes, so that many keys begin alike.
func random(r *rand.Rand) node.Node {
	for {
		longest := []int{2, 4, 10, 30, 100}[r.Intn(5)]
		had := map[string]bool{}
		for range r.Intn(1 + 2*504/(longest+8)) {
			had[text(r, longest)] = true
		}
		n := node.Node{Leaf: r.Intn(2) == 0}
		for _, k := range slices.Sorted(maps.Keys(had)) {
			n.Keys = append(n.Keys, []byte(k))
		}
		if n.Leaf {
			n.Next = number(r)
			for range n.Keys {
				n.Vals = append(n.Vals, []byte(text(r, longest)))
			}
		} else {
			for range len(n.Keys) + 1 {
				n.Kids = append(n.Kids, number(r))
			}
		}
		if fault(n) == api.OK {
			return n
		}
	}
}

func text(r *rand.Rand, longest int) string {
	b := make([]byte, r.Intn(longest+1))
	for i := range b {
		b[i] = "\x00\x01ab\x80\xFF"[r.Intn(6)]
	}
	return string(b)
}

func number(r *rand.Rand) int {
	return int(r.Uint32() >> r.Intn(33))
}

// some tells pages of many kinds.
func some(count int) [][]byte {
	r := rand.New(rand.NewSource(1))
	l := [][]byte{laid(node.Node{Leaf: true}), laid(inner("", 0))}
	for _, n := range great(504) {
		l = append(l, laid(n))
	}
	for range count {
		l = append(l, laid(random(r)))
	}
	return l
}

func TestThereAndBack(t *testing.T) { // 12.1, 12.4, W7
	r := rand.New(rand.NewSource(2))
	for range 20000 {
		n := random(r)
		p := laid(n)
		holds(t, "there and back", n, p)
		if want := sized(n); node.Size(n) != want {
			t.Fatalf("Size(%s) = %d, want %d", show(n), node.Size(n), want)
		}
	}
}

// sized tells the Size of a node whose lists fit, list by list.
func sized(n node.Node) int {
	size := 7 + 4*len(n.Kids)
	for _, s := range slices.Concat(n.Keys, n.Vals) {
		size += 2 + len(s)
	}
	return size
}

func TestEveryByte(t *testing.T) { // 12.1: of each page each byte made another, and in the first ones each other one
	pages := 0
	for _, p := range some(12) {
		for i := range p {
			q, by := slices.Clone(p), byte(51)
			if i < 40 {
				by = 1
			}
			for range 255 / int(by) {
				q[i] += by
				if asPage(t, "a byte changed", q) {
					pages++
				}
			}
		}
	}
	if pages < 2000 {
		t.Errorf("%d were pages", pages)
	}
}

func TestSomeBytes(t *testing.T) { // 12.1, 12.5: several bytes changed, most of them at the front
	l := some(200)
	r := rand.New(rand.NewSource(3))
	pages := 0
	for range 60000 {
		p := slices.Clone(l[r.Intn(len(l))])
		for range 1 + r.Intn(4) {
			reach := []int{3, 12, 40, 504}[r.Intn(4)]
			p[r.Intn(reach)] = []byte{0, 1, 2, byte(r.Intn(256))}[r.Intn(4)]
		}
		if asPage(t, "some bytes changed", p) {
			pages++
		}
	}
	if pages < 10000 {
		t.Errorf("%d were pages", pages)
	}
}

func TestCounts(t *testing.T) { // 12.1: every count, over the bytes of a leaf and of an inner node
	for _, n := range []node.Node{{Leaf: true}, great(504)[3]} {
		p := laid(n)
		for count := range 1 << 16 {
			binary.BigEndian.PutUint16(p[1:], uint16(count))
			key := len(n.Keys) == 0 && count == 1 // the first noughts are a key of no bytes
			if _, ok := node.Decode(p); ok != (count == len(n.Keys) || key) {
				t.Fatal(count, ok)
			}
		}
	}
}

func TestTextLengths(t *testing.T) { // 12.1: every length, of a key and of a value
	for size := range 1 << 16 {
		for _, front := range []string{"\x01\x00\x01\x00\x00\x00\x00", "\x01\x00\x01\x00\x00\x00\x00\x00\x01a", "\x02\x00\x01\x00\x00\x00\x00\x00\x00\x00\x05"} {
			p := page(binary.BigEndian.AppendUint16([]byte(front), uint16(size)))
			if asPage(t, "a length", p) != (size <= 100) {
				t.Fatal(size)
			}
		}
	}
}

// few tells the keys that the short scripts know.
func few() []string {
	return []string{"", "\x00", "a", "a\x00", "ab", "b", "\xFF"}
}

// fromMap tells the leaf of a map's pairs.
func fromMap(next int, m map[string]string) node.Node {
	n := node.Node{Leaf: true, Next: next}
	for _, k := range slices.Sorted(maps.Keys(m)) {
		n.Keys, n.Vals = append(n.Keys, []byte(k)), append(n.Vals, []byte(m[k]))
	}
	return n
}

// TestEveryFewKeys: of each set of few keys all that can be asked.
func TestEveryFewKeys(t *testing.T) { // 12.2, 12.3, 12.4
	for set := range 1 << len(few()) {
		m := map[string]string{}
		for i, k := range few() {
			if set>>i&1 == 1 {
				m[k] = strings.Repeat("v", i)
			}
		}
		n := fromMap(set, m)
		holds(t, "a leaf", n, laid(n))
		for i, k := range append(few(), "\x00\x00", "aa", "c") {
			old, has := m[k]
			at := 0
			for x := range m {
				if x < k {
					at++
				}
			}
			if j, ok := node.Find(n, []byte(k)); j != at || ok != has {
				t.Fatalf("Find(%s, %q) = %d, %v; want %d, %v", show(n), k, j, ok, at, has)
			}
			v := strings.Repeat("w", (i+set)%4)
			m[k] = v
			put := node.Put(n, []byte(k), []byte(v))
			is(t, "Put", put, fromMap(set, m))
			delete(m, k)
			del, ok := node.Del(n, []byte(k))
			is(t, "Del", del, fromMap(set, m))
			if ok != has {
				t.Fatalf("Del(%s, %q): %v", show(n), k, ok)
			}
			back, ok := node.Del(put, []byte(k))
			if is(t, "Del behind Put", back, fromMap(set, m)); !ok {
				t.Fatalf("Del(%s, %q): false", show(put), k)
			}
			if has {
				m[k] = old
				is(t, "Put behind Del", node.Put(del, []byte(k), []byte(old)), n)
				is(t, "Put behind Put", node.Put(put, []byte(k), []byte(old)), n)
			}
		}
		if l, k, r := node.Split(n); len(m) > 1 {
			is(t, "Merge behind Split", node.Merge(l, k, r), n)
		}
	}
}

// TestManySteps: a leaf against a map, by whatever steps; what is too great for a page is halved.
func TestManySteps(t *testing.T) { // 12.1 to 12.4
	halved := 0
	for seed := range int64(40) {
		r := rand.New(rand.NewSource(100 + seed))
		longest := []int{1, 2, 5, 20, 100}[seed%5]
		m, next := map[string]string{}, number(r)
		n := node.Node{Leaf: true, Next: next}
		for range 500 {
			k, v := text(r, longest), text(r, longest)
			if r.Intn(4) == 0 {
				_, has := m[k]
				delete(m, k)
				ok := false
				if n, ok = node.Del(n, []byte(k)); ok != has {
					t.Fatalf("Del of %q: %v", k, ok)
				}
			} else {
				m[k] = v
				n = node.Put(n, []byte(k), []byte(v))
			}
			is(t, "a step", n, fromMap(next, m))
			p, e := node.Encode(n)
			if want := fault(n); e != want {
				t.Fatalf("Encode(%s): error %d, want %d", show(n), e, want)
			}
			if e == api.OK && !bytes.Equal(p, laid(n)) {
				t.Fatalf("Encode(%s) = %X", show(n), p)
			}
			if e != api.OK {
				l, k, right := node.Split(n)
				is(t, "Merge behind Split", node.Merge(l, k, right), n)
				n, next = l, 0
				maps.DeleteFunc(m, func(x, _ string) bool { return x >= string(k) })
				halved++
			}
		}
	}
	if halved < 100 {
		t.Errorf("%d were halved", halved)
	}
}

// cut tells what Split has to tell, one key and one kid after the other.
func cut(n node.Node) (left node.Node, k []byte, right node.Node) {
	left, right = node.Node{Leaf: n.Leaf}, node.Node{Leaf: n.Leaf, Next: n.Next}
	h := len(n.Keys) / 2
	for i, x := range n.Keys {
		to := &left
		if i >= h {
			to = &right
		}
		if i == h {
			k = x
		}
		if n.Leaf || i != h {
			to.Keys = append(to.Keys, x)
		}
		if n.Leaf {
			to.Vals = append(to.Vals, n.Vals[i])
		}
	}
	for i, x := range n.Kids {
		if i <= h {
			left.Kids = append(left.Kids, x)
		} else {
			right.Kids = append(right.Kids, x)
		}
	}
	return left, k, right
}

func TestManyHalves(t *testing.T) { // 12.3, 12.4
	r := rand.New(rand.NewSource(4))
	for range 10000 {
		n := random(r)
		if len(n.Keys) < 2 {
			unsplit(t, "few keys", n)
			continue
		}
		left, k, right := cut(n)
		splits(t, "many keys", n, left, string(k), right)
		is(t, "Merge behind Split", node.Merge(left, k, right), n)
		for _, half := range []node.Node{left, right} {
			holds(t, "a half", half, laid(half))
		}
	}
}

// odd tells nodes of all lengths of lists up to a few, of both kinds, most of which Encode would not take.
func odd() []node.Node {
	var l []node.Node
	for i := range 2 * 4 * 5 * 5 {
		n := node.Node{Leaf: i%2 == 0, Next: i % 3}
		n.Keys = texts("a", "b", "c")[:i/2%4]
		n.Vals = texts("1", "22", "", "4")[:i/8%5]
		n.Kids = []int{1, 2, 3, 4}[:i/40%5]
		l = append(l, n)
	}
	return l
}

func TestListsThatDoNotFit(t *testing.T) { // 12.3, 12.5
	fitting := 0
	for _, n := range odd() {
		if fits(n) {
			fitting++
			continue
		}
		fails(t, "lists that do not fit", n, api.ErrArg)
		unsplit(t, "lists that do not fit", n)
		for i, k := range []string{"", "a", "ab", "b", "c", "d"} {
			is(t, "Put", node.Put(n, []byte(k), []byte("v")), n)
			m, ok := node.Del(n, []byte(k))
			if is(t, "Del", m, n); ok {
				t.Fatalf("Del(%s, %q): true", show(n), k)
			}
			at := min([]int{0, 0, 1, 1, 2, 3}[i], len(n.Keys))
			if j, ok := node.Find(n, []byte(k)); j != at || ok != (at < len(n.Keys) && k == string(n.Keys[at])) {
				t.Fatalf("Find(%s, %q) = %d, %v", show(n), k, j, ok)
			}
		}
	}
	if fitting != 8 { // of each kind one of each count of keys
		t.Errorf("%d fit", fitting)
	}
}

// TestMergeOfAllPairs: two nodes that fit and are of one kind become one, and all others the left one.
func TestMergeOfAllPairs(t *testing.T) { // 12.3, 12.5
	merged := 0
	for _, a := range odd() {
		for _, b := range odd() {
			want := a
			if a.Leaf == b.Leaf && fits(a) && fits(b) {
				merged++
				keys := append(slices.Clone(a.Keys), b.Keys...)
				if !a.Leaf {
					keys = slices.Insert(keys, len(a.Keys), []byte("bb"))
				}
				want = node.Node{Leaf: a.Leaf, Keys: keys, Vals: slices.Concat(a.Vals, b.Vals), Kids: slices.Concat(a.Kids, b.Kids), Next: b.Next}
			}
			is(t, "Merge", node.Merge(a, []byte("bb"), b), want)
		}
	}
	if merged < 2*4*4 {
		t.Errorf("%d were merged", merged)
	}
}

// TestWhateverNodes: no node makes a call panic, and each answer is the model's.
func TestWhateverNodes(t *testing.T) { // 12.1, 12.5
	r := rand.New(rand.NewSource(5))
	told := map[api.Errno]int{}
	for range 15000 {
		n := random(r)
		for range r.Intn(3) {
			spoilt(r, &n)
		}
		want := fault(n)
		told[want]++
		p, e := node.Encode(n)
		if e != want || e != api.OK && p != nil || e == api.OK && !bytes.Equal(p, laid(n)) {
			t.Fatalf("Encode(%s): error %d, want %d", show(n), e, want)
		}
		k, v := []byte(text(r, 3)), []byte(text(r, 3))
		node.Size(n)
		node.Find(n, k)
		node.Put(n, k, v)
		node.Del(n, k)
		l, mid, right := node.Split(n)
		node.Merge(l, mid, right)
		node.Merge(n, k, random(r))
		node.Merge(random(r), k, n)
	}
	if told[api.OK] < 2000 || told[api.ErrArg] < 2000 || told[api.ErrFull] < 100 {
		t.Error(told)
	}
}

// spoilt makes a node another, most often a wrong one.
func spoilt(r *rand.Rand, n *node.Node) {
	switch r.Intn(12) {
	case 0:
		n.Leaf = !n.Leaf
	case 1:
		n.Next = []int{-1, 0, 1, 1 << 32}[r.Intn(4)]
	case 2:
		n.Keys = append(n.Keys, []byte(text(r, 102)))
	case 3:
		n.Vals = append(n.Vals, []byte(text(r, 102)))
	case 4:
		n.Kids = append(n.Kids, []int{-1, 0, 7, 1 << 32}[r.Intn(4)])
	case 5:
		if len(n.Keys) > 0 {
			n.Keys[r.Intn(len(n.Keys))] = []byte(text(r, 110))
		}
	case 6:
		if len(n.Vals) > 0 {
			n.Vals[r.Intn(len(n.Vals))] = bytes.Repeat([]byte("v"), r.Intn(110))
		}
	default:
		for i := range n.Vals {
			n.Vals[i] = append(n.Vals[i], "more"...)
		}
	}
}
