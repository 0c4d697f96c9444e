package heap_test

import (
	"bytes"
	"math"
	"math/rand"
	"slices"
	"strconv"
	"testing"

	"palimpsest/api"
	"palimpsest/dev"
	"palimpsest/heap"
	"palimpsest/space"
	"palimpsest/store"
)

const each = 504

// sheet is what a page of a chain holds: of each slot its record, nil if it is empty.
type sheet struct {
	next int
	recs [][]byte
}

// big tells n in so many bytes, the highest first.
func big(n, size int) []byte {
	b := make([]byte, size)
	for i := range b {
		b[size-1-i] = byte(n >> (8 * i))
	}
	return b
}

// laid spells a sheet as 9.1 tells it: front and back are made apart, and noughts are laid between.
func laid(s sheet) []byte {
	front := append(big(len(s.recs), 2), big(s.next, 4)...)
	var back []byte
	for _, r := range s.recs {
		if r == nil {
			front = append(front, 0, 0, 0, 0)
			continue
		}
		back = append(slices.Clone(r), back...)
		front = append(front, big(each-len(back), 2)...)
		front = append(front, big(len(r)+1, 2)...)
	}
	return append(append(front, make([]byte, each-len(front)-len(back))...), back...)
}

// left tells how many bytes lie between a sheet's table and its records.
func left(s sheet) int {
	n := each - 6 - 4*len(s.recs)
	for _, r := range s.recs {
		n -= len(r)
	}
	return n
}

// seen tells the sheet of which p is the bytes: it cuts the records off p's end, and looks whether the sheet would be laid out just so.
func seen(p []byte) (sheet, bool) {
	n, rest := int(p[0])<<8+int(p[1]), p
	if 6+4*n > each {
		return sheet{}, false
	}
	s := sheet{next: int(p[2])<<24 + int(p[3])<<16 + int(p[4])<<8 + int(p[5])}
	for i := range n {
		size := int(p[6+4*i+2])<<8 + int(p[6+4*i+3])
		if size == 0 {
			s.recs = append(s.recs, nil)
			continue
		}
		if size-1 > 480 || size-1 > len(rest) {
			return sheet{}, false
		}
		cut := len(rest) - (size - 1)
		s.recs = append(s.recs, append([]byte{}, rest[cut:]...))
		rest = rest[:cut]
	}
	if n > 0 && s.recs[n-1] == nil || left(s) < 0 || !bytes.Equal(laid(s), p) {
		return sheet{}, false
	}
	return s, true
}

func (s sheet) has(i int) bool {
	return i >= 0 && i < len(s.recs) && s.recs[i] != nil
}

// put tells the sheet with a record more, and its slot; below 0, if there is no room.
func (s sheet) put(data []byte) (int, sheet) {
	l := slices.Clone(s.recs)
	i := slices.IndexFunc(l, func(r []byte) bool { return r == nil })
	if i < 0 {
		i, l = len(l), append(l, nil)
	}
	l[i] = append([]byte{}, data...)
	q := sheet{next: s.next, recs: l}
	if left(q) < 0 {
		return -1, s
	}
	return i, q
}

// with tells the sheet with another record, or with none, in a slot that is not empty.
func (s sheet) with(i int, data []byte) sheet {
	l := slices.Clone(s.recs)
	l[i] = data
	for len(l) > 0 && l[len(l)-1] == nil {
		l = l[:len(l)-1]
	}
	return sheet{next: s.next, recs: l}
}

// change is a Write: bytes of a page.
type change struct {
	page, off     int
	before, after []byte
	lsn           int
}

func (c change) meets(x change) bool {
	return c.page == x.page && max(c.off, x.off) < min(c.off+len(c.after), x.off+len(x.after))
}

// asked is what the chapters' words ask of one call: the Writes that it makes, one behind the other.
type asked struct {
	m    *model
	x    int
	over map[int][]byte // pages that it changed
	l    []change
}

func (a *asked) page(p int) []byte {
	if b := a.over[p]; b != nil {
		return b
	}
	return a.m.is[p]
}

// write makes a page b by one Write, from the first byte that changes to the last one.
func (a *asked) write(p int, b []byte) api.Errno {
	was := a.page(p)
	low, high := each, -1
	for i := range b {
		if b[i] != was[i] {
			low, high = min(low, i), i
		}
	}
	if high < 0 {
		return api.OK
	}
	if !slices.Contains(a.m.open, a.x) {
		return api.ErrNone
	}
	c := change{page: p, off: low, before: was[low : high+1], after: b[low : high+1]}
	for y, did := range a.m.did {
		if y != a.x && slices.ContainsFunc(did, c.meets) {
			return api.ErrBusy
		}
	}
	a.l = append(a.l, c)
	a.over[p] = b
	return api.OK
}

// mark makes a page's byte of the map what it shall be.
func (a *asked) mark(p int, to byte) api.Errno {
	b := slices.Clone(a.page(p / each))
	b[p%each] = to
	return a.write(p/each, b)
}

func (a *asked) take() (int, api.Errno) {
	for p := range a.m.s.Pages() {
		if a.page(p / each)[p%each] != 0 {
			continue
		}
		if e := a.mark(p, 1); e != api.ErrBusy {
			return p, e
		}
	}
	return 0, api.ErrFull
}

// walk goes along a chain until it is told to stop: the page there, or the last one, and false.
func (a *asked) walk(head int, stop func(p int, s sheet) bool) (int, sheet, bool, api.Errno) {
	var gone []int
	for p := head; ; {
		if p < 0 || p >= a.m.s.Pages() || slices.Contains(gone, p) {
			return 0, sheet{}, false, api.ErrBad
		}
		s, ok := seen(a.page(p))
		if !ok {
			return 0, sheet{}, false, api.ErrBad
		}
		if stop(p, s) {
			return p, s, true, api.OK
		}
		if s.next == 0 {
			return p, s, false, api.OK
		}
		gone = append(gone, p)
		p = s.next
	}
}

func (a *asked) pages(head int) ([]int, api.Errno) {
	var l []int
	_, _, _, e := a.walk(head, func(p int, s sheet) bool {
		l = append(l, p)
		return false
	})
	return l, e
}

func (a *asked) insert(head int, data []byte) (api.RID, api.Errno) {
	if len(data) > 480 {
		return api.RID{}, api.ErrArg
	}
	p, s, ok, e := a.walk(head, func(p int, s sheet) bool {
		n, _ := s.put(data)
		return n >= 0
	})
	if e != api.OK {
		return api.RID{}, e
	}
	if ok {
		n, q := s.put(data)
		return at(p, n), a.write(p, laid(q))
	}
	fresh, e := a.take()
	if e != api.OK {
		return api.RID{}, e
	}
	s.next = fresh
	if e := a.write(p, laid(s)); e != api.OK {
		return api.RID{}, e
	}
	n, q := sheet{}.put(data)
	return at(fresh, n), a.write(fresh, laid(q))
}

// find tells the page of a chain that has a record.
func (a *asked) find(head int, r api.RID) (sheet, api.Errno) {
	_, s, ok, e := a.walk(head, func(p int, s sheet) bool { return p == r.Page })
	if e == api.OK && (!ok || !s.has(r.Slot)) {
		e = api.ErrNone
	}
	return s, e
}

func (a *asked) update(head int, r api.RID, data []byte) (api.RID, api.Errno) {
	if len(data) > 480 {
		return api.RID{}, api.ErrArg
	}
	s, e := a.find(head, r)
	if e != api.OK {
		return api.RID{}, e
	}
	if q := s.with(r.Slot, append([]byte{}, data...)); left(q) >= 0 {
		return r, a.write(r.Page, laid(q))
	}
	if e := a.write(r.Page, laid(s.with(r.Slot, nil))); e != api.OK {
		return api.RID{}, e
	}
	return a.insert(head, data)
}

func (a *asked) delete(head int, r api.RID) api.Errno {
	s, e := a.find(head, r)
	if e != api.OK {
		return e
	}
	return a.write(r.Page, laid(s.with(r.Slot, nil)))
}

func (a *asked) make() (int, api.Errno) {
	p, e := a.take()
	if e != api.OK {
		return 0, e
	}
	return p, a.write(p, make([]byte, each))
}

// drop gives all pages of a chain back, or none.
func (a *asked) drop(head int) api.Errno {
	l, e := a.pages(head)
	if e != api.OK {
		return e
	}
	maps := make([][]byte, a.m.maps())
	for _, p := range l {
		k := p / each
		if p < len(maps) || a.page(k)[p%each] == 0 {
			return api.ErrArg
		}
		if maps[k] == nil {
			maps[k] = slices.Clone(a.page(k))
		}
		maps[k][p%each] = 0
	}
	for k, b := range maps {
		if b == nil {
			continue
		}
		if e := a.write(k, b); e != api.OK {
			a.l = nil
			return e
		}
	}
	return api.OK
}

// model is the bytes of all pages, as the chapters' words make them, beside the store that they are held against.
type model struct {
	t      *testing.T
	r      *rand.Rand
	d      *dev.Dev
	s      *store.Store
	frames int
	is     [][]byte
	heads  []int
	open   []int
	did    map[int][]change // what stands, by open transactions
	acked  int              // commits
	failed bool
	under  int // the transaction whose commit is under way, or 0
	wild   bool
	counts map[string]int // how often something was met
}

func newModel(t *testing.T, r *rand.Rand, sectors, frames int) *model {
	d, _ := dev.New(sectors)
	m := &model{t: t, r: r, d: d, frames: frames, did: map[int][]change{}, counts: map[string]int{}}
	m.s = again(t, d, frames)
	for range m.s.Pages() {
		m.is = append(m.is, make([]byte, each))
	}
	return m
}

func (m *model) maps() int {
	return (len(m.is) + each - 1) / each
}

// asks begins what is asked of a call of x.
func (m *model) asks(x int) *asked {
	return &asked{m: m, x: x, over: map[int][]byte{}}
}

// heard takes a call's error and tells whether it was answered OK.
func (m *model) heard(e, want api.Errno) bool {
	m.t.Helper()
	if m.d.Dead() {
		if e != api.ErrDead {
			m.t.Fatal("answered ", e, " though the device is dead")
		}
		m.failed = true
		return false
	}
	if e != want {
		m.t.Fatalf("answered %d, want %d", e, want)
	}
	return e == api.OK
}

// done holds a call's error and its Writes against what was asked, notes the Writes, and tells whether the call went well. A log that is full may refuse each of them: then those ahead of it stay, if they are no Drop's.
func (m *model) done(name string, e, want api.Errno, a *asked, all bool) bool {
	m.t.Helper()
	if m.d.Dead() {
		return m.heard(e, want)
	}
	m.counts[name+" "+strconv.Itoa(int(e))]++
	got := m.newest(a.x)
	need := a.l
	if e == api.ErrFull && len(got) < len(a.l) {
		if n := len(got); !all {
			need = a.l[n : n+1]
			a.l = a.l[:n]
			m.counts["in the midst"] += min(n, 1)
		} else {
			a.l = nil
		}
		n := 0
		for _, c := range need {
			n += cost(len(c.after))
		}
		if m.s.Room() >= n {
			m.t.Fatalf("%s is refused, the log has room for %d bytes and needs %d", name, m.s.Room(), n)
		}
		m.counts["a full log"]++
		want = e
	}
	if e != want {
		m.t.Fatalf("%s is %d, want %d", name, e, want)
	}
	m.note(a.x, got, a.l)
	return e == api.OK
}

// note holds Writes against those that were asked for.
func (m *model) note(x int, got, want []change) {
	m.t.Helper()
	if len(got) != len(want) {
		m.t.Fatalf("%d updates, want %d", len(got), len(want))
	}
	for i, c := range want {
		g := got[i]
		if g.page != c.page || g.off != c.off || !bytes.Equal(g.before, c.before) || !bytes.Equal(g.after, c.after) {
			m.t.Fatalf("wrote %v, want %v", g, c)
		}
		m.lay(g.page, g.off, g.after)
		m.did[x] = append(m.did[x], g)
	}
}

func (m *model) lay(p, off int, b []byte) {
	m.is[p] = slices.Clone(m.is[p])
	copy(m.is[p][off:], b)
}

// newest tells the updates of x that are not noted yet.
func (m *model) newest(x int) []change {
	if !slices.Contains(m.open, x) {
		return nil // its records are of another time
	}
	known := 0
	if did := m.did[x]; len(did) > 0 {
		known = did[len(did)-1].lsn
	}
	var l []change
	for _, line := range m.s.Log() {
		switch r := line.Rec; {
		case r.Txn != x || line.LSN <= known:
		case r.Kind == api.RUpdate:
			l = append(l, change{r.Page, r.Off, r.Before, r.After, line.LSN})
		case r.Kind == api.RClr: // undone: those ahead of it that it went past
			l = slices.DeleteFunc(l, func(c change) bool { return c.lsn > r.Next })
		}
	}
	return l
}

func (m *model) undo(l []change) {
	for _, c := range slices.Backward(l) {
		m.lay(c.page, c.off, c.before)
	}
}

// look holds what a heap tells against the model, and what a place tells.
func (m *model) look() {
	m.t.Helper()
	head := m.head()
	a := m.asks(0)
	want, no := a.pages(head)
	if no != api.OK {
		want = nil
	}
	l, e := heap.Pages(m.s, head)
	if !m.heard(e, no) && len(l) > 0 || e == api.OK && !slices.Equal(l, want) {
		m.t.Fatalf("Pages(%d) is %v, %d, want %v", head, l, e, want)
	}
	rids, recs, e := heap.Scan(m.s, head)
	if !m.heard(e, no) && len(rids)+len(recs) > 0 || len(rids) != len(recs) {
		m.t.Fatalf("Scan(%d) is %v, %v, %d", head, rids, recs, e)
	}
	if e != api.OK {
		return
	}
	for _, p := range want {
		s, _ := seen(m.is[p])
		for i, r := range s.recs {
			if r == nil {
				continue
			}
			if len(rids) == 0 || rids[0] != at(p, i) || !bytes.Equal(recs[0], r) {
				m.t.Fatalf("Scan(%d) lacks %v: %q", head, at(p, i), r)
			}
			rids, recs = rids[1:], recs[1:]
		}
	}
	if len(rids) > 0 {
		m.t.Fatalf("Scan(%d) has %v: %q", head, rids, recs)
	}
	m.lookAt(m.place(head))
}

// lookAt holds what a place tells against the model.
func (m *model) lookAt(r api.RID) {
	m.t.Helper()
	var want []byte
	no := api.ErrNone
	if r.Page >= 0 && r.Page < len(m.is) {
		if s, ok := seen(m.is[r.Page]); ok && s.has(r.Slot) {
			want, no = s.recs[r.Slot], api.OK
		}
	}
	b, e := heap.Get(m.s, r)
	if !m.heard(e, no) && len(b) > 0 || e == api.OK && !bytes.Equal(b, want) {
		m.t.Fatalf("Get(%v) is %q, %d, want %q", r, b, e, want)
	}
}

// lookAll holds all pages' bytes against the model, as far as the device lasts.
func (m *model) lookAll() {
	m.t.Helper()
	for p, want := range m.is {
		b, e := m.s.Read(p, 0, each)
		if !m.heard(e, api.OK) {
			return
		}
		if !bytes.Equal(b, want) {
			m.t.Fatalf("page %d is %x, want %x", p, b, want)
		}
	}
}

// head tells a heap's head for the most part.
func (m *model) head() int {
	if m.r.Intn(60) == 0 {
		return []int{-1, 0, len(m.is), math.MinInt, math.MaxInt, 1 << 32, m.r.Intn(len(m.is))}[m.r.Intn(7)]
	}
	var l []int
	for _, h := range m.heads {
		if m.wild || m.is[h/each][h%each] != 0 {
			l = append(l, h)
		}
	}
	if len(l) == 0 {
		return m.r.Intn(len(m.is))
	}
	return l[m.r.Intn(len(l))]
}

// place tells a place where something stands, for the most part.
func (m *model) place(head int) api.RID {
	l, e := m.asks(0).pages(head)
	if e != api.OK || m.r.Intn(20) == 0 {
		p := []int{m.r.Intn(len(m.is)), head, -1, len(m.is), 1 << 40}[m.r.Intn(5)]
		return at(p, []int{0, 1, -1, m.r.Intn(9), math.MaxInt}[m.r.Intn(5)])
	}
	p := l[m.r.Intn(len(l))]
	s, _ := seen(m.is[p])
	var there []int
	for i, r := range s.recs {
		if r != nil {
			there = append(there, i)
		}
	}
	if len(there) == 0 || m.r.Intn(20) == 0 {
		return at(p, m.r.Intn(len(s.recs)+2)-1)
	}
	return at(p, there[m.r.Intn(len(there))])
}

// data tells a record of any length, for the most part one that a record may have.
func (m *model) data() []byte {
	n := m.r.Intn(30)
	switch m.r.Intn(8) {
	case 0, 1, 2:
		n = m.r.Intn(200)
	case 3, 4:
		n = m.r.Intn(481)
	case 5:
		n = []int{0, 480, 481, 476, 490 - m.r.Intn(20)}[m.r.Intn(5)]
	}
	return bytes.Repeat([]byte{byte('a' + m.r.Intn(26))}, n)
}

func (m *model) make(x int) {
	m.t.Helper()
	a := m.asks(x)
	want, no := a.make()
	h, e := heap.Make(m.s, x)
	if m.done("Make", e, no, a, false) {
		m.heads = append(m.heads, h)
	} else {
		want = 0
	}
	if h != want {
		m.t.Fatalf("Make is %d, want %d", h, want)
	}
}

func (m *model) insert(x int) {
	m.t.Helper()
	a, head, data := m.asks(x), m.head(), m.data()
	want, no := a.insert(head, data)
	was := slices.Clone(data)
	r, e := heap.Insert(m.s, x, head, data)
	if len(a.over) == 3 && e == api.OK {
		m.counts["hung"]++
	}
	if !m.done("Insert", e, no, a, false) {
		want = api.RID{}
	}
	if r != want || !bytes.Equal(data, was) {
		m.t.Fatalf("Insert is %v, want %v", r, want)
	}
}

func (m *model) update(x int) {
	m.t.Helper()
	a, head, data := m.asks(x), m.head(), m.data()
	r := m.place(head)
	want, no := a.update(head, r, data)
	was := slices.Clone(data)
	q, e := heap.Update(m.s, x, head, r, data)
	if e == api.OK && q != r {
		m.counts["moved"]++
	}
	if !m.done("Update", e, no, a, false) {
		want = api.RID{}
	}
	if q != want || !bytes.Equal(data, was) {
		m.t.Fatalf("Update is %v, want %v", q, want)
	}
}

func (m *model) delete(x int) {
	m.t.Helper()
	a, head := m.asks(x), m.head()
	r := m.place(head)
	no := a.delete(head, r)
	m.done("Delete", heap.Delete(m.s, x, head, r), no, a, false)
}

func (m *model) drop(x int) {
	m.t.Helper()
	a, head := m.asks(x), m.head()
	no := a.drop(head)
	m.done("Drop", heap.Drop(m.s, x, head), no, a, true)
}

// damage writes to a page by the store alone: a Next that leads anywhere, or any bytes.
func (m *model) damage(x int) {
	m.t.Helper()
	a, p := m.asks(x), m.head()
	if p < m.maps() || p >= len(m.is) {
		return
	}
	b := slices.Clone(m.is[p])
	if m.r.Intn(3) > 0 {
		copy(b[2:6], big(m.r.Intn(len(m.is)+1), 4))
	} else {
		b[m.r.Intn(each)] ^= byte(1 << m.r.Intn(8))
	}
	no := a.write(p, b)
	if len(a.l) > 0 {
		m.done("Write", m.s.Write(x, p, a.l[0].off, a.l[0].after), no, a, false)
	}
}

func (m *model) format(x int) {
	m.t.Helper()
	a := m.asks(x)
	b := slices.Clone(m.is[0])
	copy(b, bytes.Repeat([]byte{1}, m.maps()))
	no := a.write(0, b)
	m.done("Format", space.Format(m.s, x), no, a, false)
}

func (m *model) begin() int {
	m.t.Helper()
	x, e := m.s.Begin()
	if e == api.ErrFull && m.s.Room() < 400 {
		return 0
	}
	if m.heard(e, api.OK) {
		m.open = append(m.open, x)
	}
	return x
}

func (m *model) close(x int) {
	delete(m.did, x)
	m.open = slices.DeleteFunc(m.open, func(y int) bool { return x == y })
}

func (m *model) commit(x int) {
	m.t.Helper()
	m.under = x
	if m.heard(m.s.Commit(x), api.OK) {
		m.under = 0
		m.acked++
		m.close(x)
	}
}

func (m *model) rollback(x int) {
	m.t.Helper()
	if m.heard(m.s.Rollback(x), api.OK) {
		m.undo(m.did[x])
		m.close(x)
	}
}

func (m *model) back(x int) {
	m.t.Helper()
	k := m.r.Intn(len(m.did[x]) + 1)
	mark, e := m.s.Save(x)
	if !m.heard(e, api.OK) {
		return
	}
	if k < len(m.did[x]) {
		mark = m.did[x][k].lsn
		k++
	}
	if m.heard(m.s.Back(x, mark), api.OK) {
		m.undo(m.did[x][k:])
		m.did[x] = m.did[x][:k]
	}
}

// rise crashes the device and opens it again: just what was committed is there (10.5).
func (m *model) rise() {
	m.t.Helper()
	keep := make([]bool, m.d.Pending())
	for i := range keep {
		keep[i] = m.r.Intn(2) == 0
	}
	m.d.Crash(keep)
	m.s = again(m.t, m.d, m.frames)
	lasts := m.s.Commits() - m.acked
	if lasts < 0 || lasts > 1 || lasts == 1 && m.under == 0 {
		m.t.Fatal(lasts, " commits more")
	}
	for x, l := range m.did { // no two of them wrote one byte
		if lasts == 0 || x != m.under {
			m.undo(l)
		}
	}
	m.acked += lasts
	m.open, m.under, m.failed = nil, 0, false
	clear(m.did)
	m.lookAll()
	m.counts["crash"]++
}

func (m *model) turn() {
	m.t.Helper()
	if len(m.open) == 0 || len(m.open) < 3 && m.r.Intn(16) == 0 {
		m.begin()
		return
	}
	x := m.open[m.r.Intn(len(m.open))]
	if m.r.Intn(100) == 0 {
		x = []int{0, -1, 1 << 40, 1}[m.r.Intn(4)]
	}
	switch k := m.r.Intn(60); {
	case len(m.heads) == 0 || k < 2:
		m.make(x)
	case k < 24:
		m.insert(x)
	case k < 36:
		m.update(x)
	case k < 42:
		m.delete(x)
	case k < 43:
		m.drop(x)
	case k < 47 && slices.Contains(m.open, x):
		m.commit(x)
	case k < 49 && slices.Contains(m.open, x):
		m.rollback(x)
	case k < 54 && slices.Contains(m.open, x):
		m.back(x)
	case k < 56:
		m.heard(m.s.Evict(m.r.Intn(m.s.Pages())), api.OK)
	case k < 58 && m.wild:
		m.damage(x)
	case k < 59 && m.r.Intn(4) == 0:
		m.d.Fuse(m.r.Intn(120))
	}
}

// crowd takes nearly all pages, so that the others lie anywhere.
func (m *model) crowd() {
	m.t.Helper()
	for p := m.maps(); p < len(m.is); p++ {
		if m.r.Intn(20) == 0 {
			continue
		}
		x := m.begin()
		fine(m.t, m.s.Write(x, p/each, p%each, []byte{1}))
		m.lay(p/each, p%each, []byte{1})
		m.commit(x)
	}
	m.lookAll()
}

// 10.1 to 10.6: whatever several transactions do by turns, with heaps and with what is none, every answer and every Write is what the chapters' words say, and behind a crash just what was committed is there.
func TestModel(t *testing.T) {
	counts := make([]map[string]int, 60)
	t.Run("seeds", func(t *testing.T) {
		for seed := range counts {
			t.Run(strconv.Itoa(seed), func(t *testing.T) {
				t.Parallel()
				r := rand.New(rand.NewSource(int64(seed)))
				m := newModel(t, r, []int{200, 512, 1024, 2048, 2702}[seed%5], 1+seed%6)
				m.wild = seed%3 == 2
				x := m.begin()
				m.format(x)
				m.commit(x)
				if len(m.is) > each || seed%4 == 0 {
					m.crowd()
				}
				for i := range 500 {
					m.turn()
					if !m.failed {
						m.look()
					}
					if !m.failed && i%10 == 9 {
						m.lookAll()
					}
					if m.failed {
						m.rise()
					}
				}
				counts[seed] = m.counts
			})
		}
	})
	sum := map[string]int{}
	for _, m := range counts {
		for name, n := range m {
			sum[name] += n
		}
	}
	t.Log(sum)
	for _, name := range []string{"Make 0", "Make 60", "Insert 0", "Insert 1", "Insert 60", "Insert 61", "Insert 62", "Insert 63", "Update 0", "Update 1", "Update 60",
		"Update 61", "Update 62", "Update 63", "Delete 0", "Delete 61", "Delete 62", "Delete 63", "Drop 0", "Drop 1", "Drop 63", "a full log", "in the midst", "hung", "moved", "crash"} {
		if sum[name] == 0 {
			t.Errorf("%s was never met", name)
		}
	}
}
