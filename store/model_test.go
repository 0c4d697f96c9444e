package store_test

import (
	"bytes"
	"math/rand"
	"reflect"
	"slices"
	"testing"

	"palimpsest/api"
	"palimpsest/dev"
	"palimpsest/rec"
	"palimpsest/redo"
	"palimpsest/store"
)

// model is the chapter's words about a store that drives no page out of memory by itself, in lists that are gone through from their beginning each time. It has no device: a crash takes what was not flushed.
type model struct {
	ring, pages      int
	start, end, tail int
	log              []redo.Line
	now, file        []page
	since            []int // of a page: from which LSN on it is dirty
	open             []*life
	undoes           map[int]int // of a clr's LSN: that of the update that it undoes
	all              []int       // the LSNs of all commits
	next             int
	masters          [2][4]int
	number           int
}

type page struct {
	lsn  int
	data [api.PageData]byte
}

type life struct {
	id, begin, last int
}

const sectorBytes = 118

func newModel(sectors int) *model {
	m := &model{ring: sectors / 4, next: 1, undoes: map[int]int{}}
	m.pages = (sectors - 2 - m.ring - 5) / 4
	m.now, m.file, m.since = make([]page, m.pages), make([]page, m.pages), make([]int, m.pages)
	m.startAt(0)
	return m
}

func (m *model) room() int {
	return max(0, (m.start/sectorBytes+m.ring-1)*sectorBytes-m.tail)
}

// standing tells the updates of a transaction that are not undone, the newest last.
func (m *model) standing(id int) []redo.Line {
	var l []redo.Line
	for _, x := range m.log {
		if x.Rec.Txn != id {
			continue
		}
		switch x.Rec.Kind {
		case api.RUpdate:
			l = append(l, x)
		case api.RClr:
			l = slices.DeleteFunc(l, func(u redo.Line) bool { return u.LSN == m.undoes[x.LSN] })
		}
	}
	return l
}

func (m *model) reserved() int {
	n := 0
	for _, x := range m.open {
		n += 192
		for _, u := range m.standing(x.id) {
			n += 96 + len(u.Rec.Before)
		}
	}
	return n
}

func (m *model) left() int {
	return max(0, m.room()-m.reserved()-2048)
}

func (m *model) txns() []api.Txn {
	var l []api.Txn
	for _, x := range m.open {
		l = append(l, api.Txn{ID: x.id, Last: x.last, State: api.TRun})
	}
	return l
}

func (m *model) find(id int) *life {
	for _, x := range m.open {
		if x.id == id {
			return x
		}
	}
	return nil
}

func (m *model) tell(r api.Rec) int {
	lsn := m.tail + 1
	m.log = append(m.log, redo.Line{LSN: lsn, Rec: r})
	m.tail += rec.Size(r)
	if r.Kind == api.RCommit {
		m.all = append(m.all, lsn)
	}
	return lsn
}

func (m *model) tellOf(x *life, r api.Rec) int {
	r.Txn, r.Prev = x.id, x.last
	x.last = m.tell(r)
	return x.last
}

func (m *model) change(p, off int, b []byte, lsn int) {
	copy(m.now[p].data[off:], b)
	m.now[p].lsn = lsn
	if m.since[p] == 0 {
		m.since[p] = lsn
	}
}

func (m *model) evict(p int) api.Errno {
	if p < 0 || p >= m.pages {
		return api.ErrArg
	}
	if m.since[p] > 0 {
		if m.now[p].lsn > m.end {
			m.end = m.tail
		}
		m.file[p], m.since[p] = m.now[p], 0
	}
	return api.OK
}

func (m *model) check() api.Errno {
	r := api.Rec{Kind: api.RCheck, Txns: m.txns(), Count: len(m.all)}
	for p, lsn := range m.since {
		if lsn > 0 {
			r.Dirty = append(r.Dirty, api.Dirty{Page: p, LSN: lsn})
		}
	}
	need := rec.Size(r) + m.reserved()
	if len(m.open) > 0 {
		need += 1120
	}
	if m.room() < need {
		return api.ErrFull
	}
	start := m.tell(r) - 1
	for _, x := range m.open {
		start = min(start, x.begin-1)
	}
	m.end = m.tail
	m.startAt(start)
	return api.OK
}

func (m *model) startAt(start int) {
	for p := range m.pages {
		m.evict(p)
	}
	ahead := 0
	for _, lsn := range m.all {
		if lsn-1 < start {
			ahead++
		}
	}
	m.number++
	m.masters[m.number%2] = [4]int{m.number, start, ahead, m.next}
	m.start = start
	m.log = slices.DeleteFunc(m.log, func(x redo.Line) bool { return x.LSN-1 < start })
}

// grant tells whether a new record with its reservation has room, behind a checkpoint if that may help.
func (m *model) grant(n int) bool {
	if m.room() >= n+m.reserved()+2048 {
		return true
	}
	for _, x := range m.open {
		if x.begin-1 == m.start {
			return false
		}
	}
	m.check()
	return m.room() >= n+m.reserved()+2048
}

func (m *model) begin() (int, api.Errno) {
	if !m.grant(96 + 192) {
		return 0, api.ErrFull
	}
	lsn := m.tell(api.Rec{Kind: api.RBegin, Txn: m.next})
	m.open = append(m.open, &life{m.next, lsn, lsn})
	m.next++
	return m.next - 1, api.OK
}

func (m *model) write(t, p, off int, b []byte) api.Errno {
	x := m.find(t)
	if x == nil {
		return api.ErrNone
	}
	if p < 0 || p >= m.pages || off < 0 || off > 504-len(b) {
		return api.ErrArg
	}
	for i := range b {
		for _, y := range m.open {
			for _, u := range m.standing(y.id) {
				at := off + i - u.Rec.Off
				if y != x && u.Rec.Page == p && at >= 0 && at < len(u.Rec.After) {
					return api.ErrBusy
				}
			}
		}
	}
	before := slices.Clone(m.now[p].data[off : off+len(b)])
	if bytes.Equal(before, b) {
		return api.OK
	}
	if !m.grant(96 + 2*len(b) + 96 + len(b)) {
		return api.ErrFull
	}
	lsn := m.tellOf(x, api.Rec{Kind: api.RUpdate, Page: p, Off: off, Before: before, After: slices.Clone(b)})
	m.change(p, off, b, lsn)
	return api.OK
}

func (m *model) read(p, off, n int) ([]byte, api.Errno) {
	if p < 0 || p >= m.pages || off < 0 || n < 0 || off > 504-n {
		return nil, api.ErrArg
	}
	return m.now[p].data[off : off+n], api.OK
}

func (m *model) close(x *life) {
	m.tellOf(x, api.Rec{Kind: api.REnd})
	m.open = slices.DeleteFunc(m.open, func(y *life) bool { return y == x })
}

func (m *model) commit(t int) api.Errno {
	x := m.find(t)
	if x == nil {
		return api.ErrNone
	}
	m.tellOf(x, api.Rec{Kind: api.RCommit})
	m.end = m.tail
	m.close(x)
	return api.OK
}

func (m *model) rollback(t int) api.Errno {
	x := m.find(t)
	if x == nil {
		return api.ErrNone
	}
	m.tellOf(x, api.Rec{Kind: api.RAbort})
	m.undoAbove(x, 0)
	m.close(x)
	return api.OK
}

func (m *model) undoAbove(x *life, mark int) {
	for _, u := range slices.Backward(m.standing(x.id)) {
		if u.LSN <= mark {
			return
		}
		lsn := m.tellOf(x, api.Rec{Kind: api.RClr, Next: u.Rec.Prev, Page: u.Rec.Page, Off: u.Rec.Off, After: u.Rec.Before})
		m.undoes[lsn] = u.LSN
		m.change(u.Rec.Page, u.Rec.Off, u.Rec.Before, lsn)
	}
}

func (m *model) save(t int) (int, api.Errno) {
	x := m.find(t)
	if x == nil {
		return 0, api.ErrNone
	}
	return x.last, api.OK
}

func (m *model) back(t, mark int) api.Errno {
	x := m.find(t)
	if x == nil {
		return api.ErrNone
	}
	if !slices.ContainsFunc(m.log, func(l redo.Line) bool { return l.LSN == mark && l.Rec.Txn == t }) {
		return api.ErrArg
	}
	m.undoAbove(x, mark)
	return api.OK
}

// crash takes what was not flushed, and opens again: the records that the file's pages lack are redone, the updates that stand are undone.
func (m *model) crash() (redone, undone int) {
	m.log = slices.DeleteFunc(m.log, func(x redo.Line) bool { return x.LSN > m.end })
	m.tail = m.end
	m.now = slices.Clone(m.file)
	m.since = make([]int, m.pages)
	var open []int
	done := map[int]int{}
	m.next = m.masters[m.number%2][3]
	for _, x := range m.log {
		m.next = max(m.next, x.Rec.Txn+1)
		switch x.Rec.Kind {
		case api.RBegin:
			open = append(open, x.Rec.Txn)
		case api.RCommit:
			done[x.Rec.Txn] = 1
		case api.REnd:
			open = slices.DeleteFunc(open, func(id int) bool { return id == x.Rec.Txn })
		case api.RUpdate, api.RClr:
			if m.now[x.Rec.Page].lsn < x.LSN {
				m.change(x.Rec.Page, x.Rec.Off, x.Rec.After, x.LSN)
				redone++
			}
		}
	}
	var undo []redo.Line
	for _, id := range open {
		if done[id] == 0 {
			undo = append(undo, m.standing(id)...)
		}
		m.tail += 96 // its end
	}
	slices.SortFunc(undo, func(a, b redo.Line) int { return b.LSN - a.LSN })
	for _, u := range undo {
		m.change(u.Rec.Page, u.Rec.Off, u.Rec.Before, m.tail+1) // where just it stands among the ends no call can tell any more
		m.tail += 96 + len(u.Rec.Before)
	}
	m.open, m.end = nil, m.tail
	m.startAt(m.end)
	return redone, len(undo)
}

// pair is a store and its model, of which each call must answer the same.
type pair struct {
	t *testing.T
	d *dev.Dev
	s *store.Store
	m *model
}

func newPair(t *testing.T, sectors int) *pair {
	d, _ := dev.New(sectors)
	s, e := store.Open(d, api.MaxFrames)
	if e != api.OK {
		t.Fatal(e)
	}
	return &pair{t: t, d: d, s: s, m: newModel(sectors)}
}

// same holds all that the store tells against the model.
func (p *pair) same(what string) {
	p.t.Helper()
	if got, want := p.s.Log(), p.m.log; !reflect.DeepEqual(tidy(got), tidy(want)) {
		p.t.Fatalf("%s: the log is\n%v, want\n%v", what, got, want)
	}
	if got, want := p.s.Room(), p.m.left(); got != want {
		p.t.Fatalf("%s: Room is %d, want %d", what, got, want)
	}
	if got, want := p.s.Txns(), p.m.txns(); !slices.Equal(got, want) {
		p.t.Fatalf("%s: Txns is %v, want %v", what, got, want)
	}
	if got, want := p.s.Commits(), len(p.m.all); got != want {
		p.t.Fatalf("%s: Commits is %d, want %d", what, got, want)
	}
	for i := range p.m.pages {
		got, e := p.s.Read(i, 0, api.PageData)
		if e != api.OK || !bytes.Equal(got, p.m.now[i].data[:]) {
			p.t.Fatalf("%s: page %d is (%d) %v, want %v", what, i, e, got, p.m.now[i].data)
		}
	}
	for i := range 2 {
		if got, _ := p.d.Read(i); !bytes.Equal(got, masterBytes(p.m.masters[i])) {
			p.t.Fatalf("%s: master %d is %v, want %v", what, i, got, p.m.masters[i])
		}
	}
}

func (p *pair) held(what string, got, want any) {
	p.t.Helper()
	if !reflect.DeepEqual(got, want) {
		p.t.Fatalf("%s answers %v, want %v", what, got, want)
	}
	p.same(what)
}

// tidy makes nil of empty lists.
func tidy(l []redo.Line) []redo.Line {
	out := append([]redo.Line{}, l...)
	for i := range out {
		r := &out[i].Rec
		r.Before, r.After = append([]byte(nil), r.Before...), append([]byte(nil), r.After...)
		r.Txns, r.Dirty = append([]api.Txn(nil), r.Txns...), append([]api.Dirty(nil), r.Dirty...)
	}
	return out
}

func masterBytes(numbers [4]int) []byte {
	b := make([]byte, api.SectorSize)
	for i, n := range numbers {
		for k := range 8 {
			b[8*i+k] = byte(n >> (56 - 8*k))
		}
	}
	return b
}

// turn makes one call of both, chosen by r.
func (p *pair) turn(r *rand.Rand) {
	p.t.Helper()
	t := r.Intn(p.m.next + 1)
	if l := p.m.open; len(l) > 0 && r.Intn(12) > 0 {
		t = l[r.Intn(len(l))].id
	}
	k := r.Intn(40)
	if len(p.m.open) == 0 && r.Intn(4) > 0 {
		k = 0
	}
	switch {
	case k < 4:
		n, e := p.s.Begin()
		wantN, want := p.m.begin()
		p.held("Begin", []int{n, int(e)}, []int{wantN, int(want)})
	case k < 20:
		p.write(r, t)
	case k < 23:
		p.held("Commit", p.s.Commit(t), p.m.commit(t))
	case k < 25:
		p.held("Rollback", p.s.Rollback(t), p.m.rollback(t))
	case k < 28:
		n, e := p.s.Save(t)
		wantN, want := p.m.save(t)
		p.held("Save", []int{n, int(e)}, []int{wantN, int(want)})
	case k < 33:
		mark := p.mark(r, t)
		p.held("Back", p.s.Back(t, mark), p.m.back(t, mark))
	case k < 34:
		for range 1 + r.Intn(6) {
			p.held("Checkpoint", p.s.Checkpoint(), p.m.check())
		}
	case k < 37:
		n := r.Intn(8) - 1
		p.held("Evict", p.s.Evict(n), p.m.evict(n))
	case k < 38 && r.Intn(4) == 0:
		p.crash()
	default:
		n, off, k := r.Intn(p.m.pages+2)-1, r.Intn(515)-5, r.Intn(500)-3
		b, e := p.s.Read(n, off, k)
		wantB, want := p.m.read(n, off, k)
		if e != want || !bytes.Equal(b, wantB) {
			p.t.Fatalf("Read(%d, %d, %d) is (%d) %v", n, off, k, e, b)
		}
	}
}

func (p *pair) write(r *rand.Rand, t int) {
	p.t.Helper()
	n, off := r.Intn(6), r.Intn(12)
	size := []int{0, 1, 1, 2, 3, 5, 40, 150, 504}[r.Intn(9)]
	switch r.Intn(20) {
	case 0:
		n = []int{-1, p.m.pages, 1 << 62}[r.Intn(3)]
	case 1:
		off = []int{-1, 504, 505, 500, 1 << 62}[r.Intn(5)]
	case 2, 3:
		off = max(0, 504-size)
	}
	b := bytes.Repeat([]byte{byte(r.Intn(3))}, size)
	p.held("Write", p.s.Write(t, n, off, b), p.m.write(t, n, off, b))
}

// mark chooses one to go back to: mostly the LSN of a record, and mostly of one of t.
func (p *pair) mark(r *rand.Rand, t int) int {
	if r.Intn(8) == 0 {
		return r.Intn(p.m.tail+3) - 1
	}
	l := slices.Clone(p.m.log)
	if r.Intn(4) > 0 {
		l = slices.DeleteFunc(l, func(x redo.Line) bool { return x.Rec.Txn != t })
	}
	if len(l) == 0 {
		return 0
	}
	return l[r.Intn(len(l))].LSN
}

// crash loses all that was not synced.
func (p *pair) crash() {
	p.t.Helper()
	p.d.Crash(nil)
	s, e := store.Open(p.d, api.MaxFrames)
	if e != api.OK {
		p.t.Fatal(e)
	}
	p.s = s
	redone, undone := p.m.crash()
	gotR, gotU := s.Restart()
	p.held("Restart", []int{gotR, gotU}, []int{redone, undone})
}

// 7.1 to 7.9: whatever is called, every answer is that of the chapter's words.
func TestModel(t *testing.T) {
	for seed := range int64(300) {
		r := rand.New(rand.NewSource(seed))
		p := newPair(t, []int{128, 129, 150, 181, 240, 280}[r.Intn(6)])
		p.same("Open")
		for range 200 {
			p.turn(r)
		}
	}
}
