package space_test

import (
	"bytes"
	"math/rand"
	"slices"
	"strconv"
	"testing"

	"palimpsest/api"
	"palimpsest/dev"
	"palimpsest/space"
	"palimpsest/store"
)

// change is a Write that the chapter's words ask for: bytes of the map, by their place in all its pages one behind the other.
type change struct {
	at            int
	before, after []byte
	lsn           int
}

func (c change) meets(x change) bool {
	return max(c.at, x.at) < min(c.at+len(c.after), x.at+len(x.after))
}

// model is the chapter's words about a map, beside the store that they are held against.
type model struct {
	t      *testing.T
	r      *rand.Rand
	d      *dev.Dev
	s      *store.Store
	frames int
	is     []byte // all bytes of the map
	open   []int
	did    map[int][]change // what stands, by open transactions
	acked  int              // commits
	failed bool
	under  int // the transaction whose commit is under way, or 0
}

func newModel(t *testing.T, r *rand.Rand, sectors, frames int) *model {
	d, _ := dev.New(sectors)
	m := &model{t: t, r: r, d: d, frames: frames, did: map[int][]change{}}
	m.s = again(t, d, frames)
	m.is = make([]byte, (m.s.Pages()+each-1)/each*each)
	return m
}

func (m *model) maps() int {
	return len(m.is) / each
}

// heard takes a call's error and tells whether it was answered OK.
func (m *model) heard(e api.Errno, want ...api.Errno) bool {
	m.t.Helper()
	if m.d.Dead() {
		if e != api.ErrDead {
			m.t.Fatal("answered ", e, " though the device is dead")
		}
		m.failed = true
		return false
	}
	if !slices.Contains(want, e) {
		m.t.Fatal("answered ", e, ", want one of ", want)
	}
	return e == api.OK
}

// after tells what Writes answer in their order: the first error, and whether the log may lack room for them.
func (m *model) after(x int, l []change) api.Errno {
	for _, c := range l {
		for y, did := range m.did {
			if y != x && slices.ContainsFunc(did, c.meets) {
				return api.ErrBusy
			}
		}
	}
	return api.OK
}

// done holds a call's answer against that of its Writes, and notes them.
func (m *model) done(x int, e api.Errno, l []change) {
	m.t.Helper()
	want := m.after(x, l)
	n := 0
	for _, c := range l {
		n += cost(len(c.after))
	}
	if e == api.ErrFull && m.s.Room() < n {
		return
	}
	if !m.heard(e, want) {
		return
	}
	for _, line := range m.newest(x, len(l)) {
		c := &l[0]
		l = l[1:]
		if line.at != c.at || !bytes.Equal(line.before, c.before) || !bytes.Equal(line.after, c.after) {
			m.t.Fatalf("wrote %v, want %v", line, *c)
		}
		copy(m.is[c.at:], c.after)
		m.did[x] = append(m.did[x], line)
	}
}

// newest tells the updates of x that no change is noted for, of which there must be n.
func (m *model) newest(x, n int) []change {
	m.t.Helper()
	known := 0
	if did := m.did[x]; len(did) > 0 {
		known = did[len(did)-1].lsn
	}
	var l []change
	for _, line := range m.s.Log() {
		switch r := line.Rec; {
		case r.Txn != x || line.LSN <= known:
		case r.Kind == api.RUpdate:
			l = append(l, change{r.Page*each + r.Off, r.Before, r.After, line.LSN})
		case r.Kind == api.RClr: // undone: those ahead of it that it went past
			l = slices.DeleteFunc(l, func(c change) bool { return c.lsn > r.Next })
		}
	}
	if len(l) != n {
		m.t.Fatalf("%d updates, want %d", len(l), n)
	}
	return l
}

func (m *model) undo(x int, l []change) {
	for _, c := range slices.Backward(l) {
		copy(m.is[c.at:], c.before)
	}
}

// look holds all that is told against the model, as far as the device lasts.
func (m *model) look() {
	m.t.Helper()
	for k := range m.maps() {
		b, e := m.s.Read(k, 0, each)
		if m.failed || !m.heard(e, api.OK) {
			return
		}
		if !bytes.Equal(b, m.is[k*each:(k+1)*each]) {
			m.t.Fatal("the map is not what it should be")
		}
	}
	taken := len(m.is) - bytes.Count(m.is, []byte{0})
	n, e := space.Count(m.s)
	if m.heard(e, api.OK) && n != taken || e != api.OK && n != 0 {
		m.t.Fatalf("Count is %d, %d, want %d", n, e, taken)
	}
	p := m.r.Intn(m.s.Pages())
	is, e := space.Taken(m.s, p)
	if m.heard(e, api.OK) && is != (m.is[p] != 0) || e != api.OK && is {
		m.t.Fatalf("Taken(%d) is %v, %d", p, is, e)
	}
}

func (m *model) format(x int) {
	m.t.Helper()
	want := bytes.Repeat([]byte{1}, m.maps())
	var l []change
	for i, b := range m.is[:m.maps()] {
		if b == 1 {
			continue
		}
		if len(l) == 0 {
			l = []change{{at: i}}
		}
		l[0].before, l[0].after = bytes.Clone(m.is[l[0].at:i+1]), want[l[0].at:i+1]
	}
	m.done(x, space.Format(m.s, x), l)
}

func (m *model) take(x int) {
	m.t.Helper()
	var l []change
	for p := range m.s.Pages() {
		c := change{at: p, before: []byte{0}, after: []byte{1}}
		if m.is[p] == 0 && m.after(x, []change{c}) == api.OK {
			l = []change{c}
			break
		}
	}
	p, e := space.Take(m.s, x)
	if len(l) == 0 {
		m.heard(e, api.ErrFull)
		return
	}
	if e == api.OK && p != l[0].at || e != api.OK && p != 0 {
		m.t.Fatalf("Take is %d, %d, want %d", p, e, l[0].at)
	}
	m.done(x, e, l)
}

// some tells pages, taken ones for the most part.
func (m *model) some(n int) []int {
	from := m.r.Intn(m.s.Pages())
	var l []int
	for range n {
		p := from + m.r.Intn(2*n)
		for range 50 {
			if p < m.s.Pages() && p >= m.maps() && m.is[p] != 0 && !slices.Contains(l, p) || m.r.Intn(400) == 0 {
				break
			}
			p = m.r.Intn(m.s.Pages())
		}
		l = append(l, p)
	}
	return l
}

func (m *model) give(x, n int) {
	m.t.Helper()
	in := m.some(n)
	wrong := false
	var l []change
	for i, p := range in {
		wrong = wrong || p < m.maps() || p >= m.s.Pages() || m.is[p] == 0 || slices.Contains(in[:i], p)
	}
	for k := range m.maps() {
		low, high := len(m.is), -1
		for _, p := range in {
			if p/each == k {
				low, high = min(low, p), max(high, p)
			}
		}
		if wrong || high < 0 {
			continue
		}
		c := change{at: low, before: bytes.Clone(m.is[low : high+1]), after: bytes.Clone(m.is[low : high+1])}
		for _, p := range in {
			if p/each == k {
				c.after[p-low] = 0
			}
		}
		l = append(l, c)
	}
	was := slices.Clone(in)
	e := m.handIn(x, in)
	if !slices.Equal(in, was) {
		m.t.Fatal("the list was changed")
	}
	if wrong {
		m.heard(e, api.ErrArg)
		return
	}
	m.done(x, e, l)
}

// handIn gives pages, a single one by either call.
func (m *model) handIn(x int, l []int) api.Errno {
	if len(l) == 1 && m.r.Intn(2) == 0 {
		return space.Give(m.s, x, l[0])
	}
	return space.GiveAll(m.s, x, l)
}

func (m *model) begin() {
	m.t.Helper()
	x, e := m.s.Begin()
	if e == api.ErrFull && m.s.Room() < 400 {
		return
	}
	if m.heard(e, api.OK) {
		m.open = append(m.open, x)
	}
}

func (m *model) close(x int) {
	delete(m.did, x)
	m.open = slices.DeleteFunc(m.open, func(y int) bool { return x == y })
}

func (m *model) commit(x int) {
	m.t.Helper()
	m.under = x
	if m.heard(m.s.Commit(x), api.OK) {
		m.under = 0
		m.acked++
		m.close(x)
	}
}

func (m *model) rollback(x int) {
	m.t.Helper()
	if m.heard(m.s.Rollback(x), api.OK) {
		m.undo(x, m.did[x])
		m.close(x)
	}
}

func (m *model) back(x int) {
	m.t.Helper()
	k := m.r.Intn(len(m.did[x]) + 1)
	mark, e := m.s.Save(x)
	if !m.heard(e, api.OK) {
		return
	}
	if k < len(m.did[x]) {
		mark = m.did[x][k].lsn
		k++
	}
	if m.heard(m.s.Back(x, mark), api.OK) {
		m.undo(x, m.did[x][k:])
		m.did[x] = m.did[x][:k]
	}
}

// rise crashes the device and opens it again: just what was committed is there (8.3).
func (m *model) rise() {
	m.t.Helper()
	keep := make([]bool, m.d.Pending())
	for i := range keep {
		keep[i] = m.r.Intn(2) == 0
	}
	m.d.Crash(keep)
	m.s = again(m.t, m.d, m.frames)
	lasts := m.s.Commits() - m.acked
	if lasts < 0 || lasts > 1 || lasts == 1 && m.under == 0 {
		m.t.Fatal(lasts, " commits more")
	}
	for x, l := range m.did {
		if lasts == 0 || x != m.under {
			m.undo(x, l)
		}
	}
	m.acked += lasts
	m.open, m.under, m.failed = nil, 0, false
	clear(m.did)
	m.look()
}

func (m *model) turn() {
	m.t.Helper()
	if len(m.open) == 0 || len(m.open) < 4 && m.r.Intn(12) == 0 {
		m.begin()
		return
	}
	x := m.open[m.r.Intn(len(m.open))]
	switch k := m.r.Intn(40); {
	case k < 20:
		m.take(x)
	case k < 26:
		m.give(x, 1)
	case k < 30:
		m.give(x, m.r.Intn(6))
	case k < 31:
		m.format(x)
	case k < 34:
		m.commit(x)
	case k < 36:
		m.rollback(x)
	case k < 38:
		m.back(x)
	case k < 39:
		m.heard(m.s.Evict(m.r.Intn(m.s.Pages())), api.OK)
	case m.r.Intn(4) == 0:
		m.d.Fuse(m.r.Intn(60))
	}
}

// crowd takes nearly all pages, so that the others lie anywhere.
func (m *model) crowd() {
	m.t.Helper()
	for k := range m.maps() {
		b := make([]byte, min(each, m.s.Pages()-k*each))
		for i := range b {
			if m.r.Intn(20) > 0 {
				b[i] = 1
			}
		}
		lay(m.t, m.s, k, 0, b)
		copy(m.is[k*each:], b)
	}
	m.acked = m.s.Commits()
	m.look()
}

// 8.1 to 8.4: whatever several transactions do by turns, every answer and every record is what the chapter's words say, and behind a crash just what was committed is there.
func TestModel(t *testing.T) {
	for seed := range 48 {
		t.Run(strconv.Itoa(seed), func(t *testing.T) {
			t.Parallel()
			r := rand.New(rand.NewSource(int64(seed)))
			m := newModel(t, r, []int{128, 200, 512, 2702, 5390, 8192}[seed%6], 1+seed%5)
			if seed%3 > 0 {
				m.crowd()
			}
			for range 400 {
				m.turn()
				m.look()
				if m.failed {
					m.rise()
				}
			}
		})
	}
}
