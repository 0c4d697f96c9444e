package slot_test

import (
	"bytes"
	"math/rand"
	"slices"
	"testing"

	"palimpsest/api"
	"palimpsest/slot"
)

// sheet is what a page holds, by the chapter's words: of each slot its record, nil if it is empty.
type sheet struct {
	next int
	recs [][]byte
}

// big tells n in so many bytes, the highest first.
func big(n, size int) []byte {
	b := make([]byte, size)
	for i := range b {
		b[size-1-i] = byte(n >> (8 * i))
	}
	return b
}

// laid spells a sheet as 9.1 tells it: front and back are made apart, and noughts are laid between.
func laid(s sheet) []byte {
	front := append(big(len(s.recs), 2), big(s.next, 4)...)
	var back []byte
	for _, r := range s.recs {
		if r == nil {
			front = append(front, 0, 0, 0, 0)
			continue
		}
		back = append(slices.Clone(r), back...)
		front = append(front, big(504-len(back), 2)...)
		front = append(front, big(len(r)+1, 2)...)
	}
	return append(append(front, make([]byte, 504-len(front)-len(back))...), back...)
}

// left tells how many bytes lie between a sheet's table and its records.
func left(s sheet) int {
	n := 504 - 6 - 4*len(s.recs)
	for _, r := range s.recs {
		n -= len(r)
	}
	return n
}

// seen tells the sheet of which p is the bytes: it takes the records' lengths from p, cuts them off p's end, and looks whether the sheet would be laid out just so.
func seen(p []byte) (sheet, bool) {
	if len(p) != 504 {
		return sheet{}, false
	}
	n, rest := int(p[0])<<8+int(p[1]), p
	if 6+4*n > 504 {
		return sheet{}, false
	}
	s := sheet{next: int(p[2])<<24 + int(p[3])<<16 + int(p[4])<<8 + int(p[5])}
	for i := range n {
		size := int(p[6+4*i+2])<<8 + int(p[6+4*i+3])
		if size == 0 {
			s.recs = append(s.recs, nil)
			continue
		}
		if size-1 > 480 || size-1 > len(rest) {
			return sheet{}, false
		}
		cut := len(rest) - (size - 1)
		s.recs = append(s.recs, append([]byte{}, rest[cut:]...))
		rest = rest[:cut]
	}
	if n > 0 && s.recs[n-1] == nil || left(s) < 0 || !bytes.Equal(laid(s), p) {
		return sheet{}, false
	}
	return s, true
}

func (s *sheet) has(i int) bool {
	return i >= 0 && i < len(s.recs) && s.recs[i] != nil
}

func (s sheet) clone() sheet {
	return sheet{next: s.next, recs: slices.Clone(s.recs)}
}

func (s sheet) put(data []byte) (int, sheet, api.Errno) {
	if len(data) > 480 {
		return 0, s, api.ErrArg
	}
	q := s.clone()
	i := slices.IndexFunc(q.recs, func(r []byte) bool { return r == nil })
	if i < 0 {
		i = len(q.recs)
		q.recs = append(q.recs, nil)
	}
	q.recs[i] = append([]byte{}, data...)
	if left(q) < 0 {
		return 0, s, api.ErrFull
	}
	return i, q, api.OK
}

func (s sheet) set(i int, data []byte) (sheet, api.Errno) {
	if len(data) > 480 {
		return s, api.ErrArg
	}
	if !s.has(i) {
		return s, api.ErrNone
	}
	q := s.clone()
	q.recs[i] = append([]byte{}, data...)
	if left(q) < 0 {
		return s, api.ErrFull
	}
	return q, api.OK
}

func (s sheet) del(i int) (sheet, api.Errno) {
	if !s.has(i) {
		return s, api.ErrNone
	}
	q := s.clone()
	q.recs[i] = nil
	for len(q.recs) > 0 && q.recs[len(q.recs)-1] == nil {
		q.recs = q.recs[:len(q.recs)-1]
	}
	return q, api.OK
}

// holds asks a page all that it can be asked, and holds the answers against the sheet.
func holds(t *testing.T, p []byte, s sheet) {
	t.Helper()
	if !bytes.Equal(p, laid(s)) {
		t.Fatalf("page %x\nwant %x", p, laid(s))
	}
	if !slot.Check(p) {
		t.Fatalf("no page: %x", p)
	}
	if n, want := slot.Free(p), min(max(left(s)-4, 0), 480); n != want {
		t.Fatalf("Free %d, want %d", n, want)
	}
	if n := slot.Next(p); n != s.next {
		t.Fatalf("Next %d, want %d", n, s.next)
	}
	var l []int
	for i := -1; i <= len(s.recs)+1; i++ {
		b, ok := slot.Get(p, i)
		if ok != s.has(i) || !ok && b != nil || ok && !bytes.Equal(b, s.recs[i]) {
			t.Fatalf("Get(%d): %x %v", i, b, ok)
		}
		if s.has(i) {
			l = append(l, i)
		}
	}
	if got := slot.Slots(p); !slices.Equal(got, l) {
		t.Fatalf("Slots %v, want %v", got, l)
	}
}

// same holds a call's answer against the model's: beside an error there is no page.
func same(t *testing.T, what string, q []byte, e api.Errno, s sheet, want api.Errno) {
	t.Helper()
	if e != want {
		t.Fatalf("%s: error %d, want %d", what, e, want)
	}
	if e != api.OK && q != nil {
		t.Fatalf("%s: a page beside error %d", what, e)
	}
	if e == api.OK && !bytes.Equal(q, laid(s)) {
		t.Fatalf("%s: %x\nwant %x", what, q, laid(s))
	}
}

// step does one thing to a page and its sheet, and tells both as they are then.
func step(t *testing.T, r *rand.Rand, p []byte, s sheet, longest int) ([]byte, sheet) {
	data := make([]byte, r.Intn(longest+1))
	r.Read(data)
	i := r.Intn(len(s.recs)+3) - 1
	var q []byte
	var z sheet
	var e, want api.Errno
	switch r.Intn(8) {
	case 0, 1, 2:
		var n, m int
		n, q, e = slot.Put(p, data)
		m, z, want = s.put(data)
		if n != m {
			t.Fatalf("Put: slot %d, want %d", n, m)
		}
		same(t, "Put", q, e, z, want)
	case 3, 4:
		q, e = slot.Set(p, i, data)
		z, want = s.set(i, data)
		same(t, "Set", q, e, z, want)
	case 5, 6:
		q, e = slot.Del(p, i)
		z, want = s.del(i)
		same(t, "Del", q, e, z, want)
	case 7:
		z = s.clone()
		z.next = r.Intn(1 << 32)
		q = slot.SetNext(p, z.next)
		same(t, "SetNext", q, api.OK, z, api.OK)
	}
	if e != api.OK {
		return p, s
	}
	return q, z
}

func TestModel(t *testing.T) { // 9.1, 9.2, 9.3
	for seed := range int64(35) {
		r := rand.New(rand.NewSource(seed))
		longest := []int{0, 1, 4, 12, 60, 200, 490}[seed%7]
		p, s := slot.New(), sheet{}
		for range 400 {
			p, s = step(t, r, p, s, longest)
			holds(t, p, s)
		}
	}
}

func TestShortScripts(t *testing.T) { // 9.1, 9.2, 9.3: every script of six calls, of few kinds
	var walk func(p []byte, s sheet, depth int)
	walk = func(p []byte, s sheet, depth int) {
		holds(t, p, s)
		if depth == 0 {
			return
		}
		for _, data := range []string{"", "ab", "cde"} {
			n, q, e := slot.Put(p, []byte(data))
			m, z, want := s.put([]byte(data))
			same(t, "Put", q, e, z, want)
			if n != m {
				t.Fatalf("Put: slot %d, want %d", n, m)
			}
			walk(q, z, depth-1)
		}
		for i := range len(s.recs) {
			q, e := slot.Del(p, i)
			z, want := s.del(i)
			same(t, "Del", q, e, z, want)
			if e == api.OK {
				walk(q, z, depth-1)
			}
			q, e = slot.Set(p, i, []byte("x"))
			z, want = s.set(i, []byte("x"))
			same(t, "Set", q, e, z, want)
		}
	}
	walk(slot.New(), sheet{}, 6)
}

// pages tells pages of many kinds: with few slots and with many, with empty ones, full and not.
func pages(t *testing.T) [][]byte {
	l := [][]byte{slot.New()}
	for seed := range int64(8) {
		r := rand.New(rand.NewSource(1000 + seed))
		p, s := slot.New(), sheet{}
		for range 20 + 20*seed {
			p, s = step(t, r, p, s, []int{0, 3, 10, 30, 60, 100, 200, 480}[seed])
		}
		l = append(l, p)
	}
	_, p, _ := slot.Put(slot.New(), make([]byte, 480))
	return append(l, p, repeated(t, 124, nil), repeated(t, 62, []byte("abcd")))
}

// repeated tells a page with so many records, all alike.
func repeated(t *testing.T, n int, data []byte) []byte {
	t.Helper()
	p := slot.New()
	for range n {
		_, q, e := slot.Put(p, data)
		if e != api.OK {
			t.Fatal(e)
		}
		p = q
	}
	return p
}

// asPage holds all answers about bytes, be they a page or not, against what the model sees in them.
func asPage(t *testing.T, p []byte) {
	t.Helper()
	if s, ok := seen(p); ok {
		holds(t, p, s)
	} else {
		isNone(t, p)
	}
}

func TestEveryByte(t *testing.T) { // 9.1, 9.2: of each page each byte made another, and in the head and the first slots each other one
	for _, p := range pages(t) {
		for i := range p {
			q, by := slices.Clone(p), byte(85)
			if i < 30 {
				by = 1
			}
			for range 255 / int(by) {
				q[i] += by
				if _, want := seen(q); slot.Check(q) != want {
					t.Fatalf("%v: %x", want, q)
				}
			}
			q[i] = p[i] ^ 1
			asPage(t, q)
		}
	}
}

func TestHeads(t *testing.T) { // 9.1: every count, and every pair of numbers of a single slot
	for n := range 1 << 16 {
		p := slot.New()
		copy(p, big(n, 2))
		if slot.Check(p) != (n == 0) {
			t.Fatal(n)
		}
	}
	for where := range 1 << 16 {
		for _, size := range []int{0, 1, 2, 3, 504 - where, 505 - where, 506 - where, 480, 481, 482, 494, 495, 496, 505, 506, 1<<16 - 1} {
			if size < 0 || size >= 1<<16 {
				continue
			}
			p := slot.New()
			copy(p, append([]byte{0, 1, 0, 0, 0, 0}, append(big(where, 2), big(size, 2)...)...))
			_, want := seen(p)
			if slot.Check(p) != want {
				t.Fatal(where, size, want)
			}
		}
	}
}

func TestSomeBytes(t *testing.T) { // 9.1, 9.2, 9.5: several bytes changed, most of them of the head and of the table
	l := pages(t)
	r := rand.New(rand.NewSource(7))
	for range 20000 {
		p := slices.Clone(l[r.Intn(len(l))])
		for range 1 + r.Intn(3) {
			reach := []int{6, 14, 30, 504}[r.Intn(4)]
			p[r.Intn(reach)] = []byte{0, 1, 2, byte(r.Intn(256))}[r.Intn(4)]
		}
		asPage(t, p)
	}
}

func TestPutAndDel(t *testing.T) { // 9.4
	for seed := range int64(40) {
		r := rand.New(rand.NewSource(500 + seed))
		p, s := slot.New(), sheet{}
		for range 120 {
			p, s = step(t, r, p, s, []int{2, 20, 100, 480}[seed%4])
			data := make([]byte, r.Intn(min(left(s)+2, 482)))
			r.Read(data)
			n, q, e := slot.Put(p, data)
			if e != api.OK {
				continue
			}
			if b, ok := slot.Get(q, n); !ok || !bytes.Equal(b, data) { // W7
				t.Fatalf("Get %x %v, want %x", b, ok, data)
			}
			if back, e := slot.Del(q, n); e != api.OK || !bytes.Equal(back, p) {
				t.Fatalf("Del %d: %x\nwant %x", e, back, p)
			}
		}
	}
}

func TestSameByOtherWays(t *testing.T) { // 9.3: the records of a page, put in another order by detours
	for seed := range int64(40) {
		r := rand.New(rand.NewSource(900 + seed))
		p, s := slot.New(), sheet{}
		for range 60 {
			p, s = step(t, r, p, s, []int{0, 5, 40, 200}[seed%4])
		}
		q := slot.New()
		for range s.recs { // all slots there first, then each its record, then those gone that are empty
			_, q, _ = slot.Put(q, nil)
		}
		for _, i := range r.Perm(len(s.recs)) {
			e := api.OK
			if s.recs[i] == nil {
				q, e = slot.Del(q, i)
			} else {
				q, e = slot.Set(q, i, s.recs[i])
			}
			if e != api.OK {
				t.Fatal(e)
			}
		}
		if q = slot.SetNext(q, s.next); !bytes.Equal(p, q) {
			t.Fatalf("%x\n%x", p, q)
		}
	}
}
