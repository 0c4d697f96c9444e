package pool_test

import (
	"bytes"
	"math/rand"
	"slices"
	"testing"

	"palimpsest/api"
)

// A place is what a frame is by the document's words.
type place struct {
	page, version int // page is -1 while it is empty
	dirty, asked  bool
	rec, lsn      int
}

// A model is a pool by the document's words, over versions instead of bytes.
type model struct {
	places []place
	hand   int
	file   []int
	writes int
	forced []int
	refuse api.Errno
}

func modelOf(pages, frames int) *model {
	m := &model{file: make([]int, pages)}
	for i := range m.file {
		m.file[i] = i
	}
	for range frames {
		m.places = append(m.places, place{page: -1})
	}
	return m
}

func (m *model) at(n int) int {
	return slices.IndexFunc(m.places, func(p place) bool { return p.page == n && n >= 0 })
}

func (m *model) write(i int) api.Errno {
	if !m.places[i].dirty {
		return api.OK
	}
	m.forced = append(m.forced, m.places[i].lsn)
	if m.refuse != api.OK {
		return m.refuse
	}
	m.file[m.places[i].page] = m.places[i].version
	m.writes++
	return api.OK
}

func (m *model) free() (int, api.Errno) {
	i := slices.IndexFunc(m.places, func(p place) bool { return p.page == -1 })
	if i >= 0 {
		return i, api.OK
	}
	for m.places[m.hand].asked {
		m.places[m.hand].asked = false
		m.hand = (m.hand + 1) % len(m.places)
	}
	i = m.hand
	m.hand = (i + 1) % len(m.places)
	return i, m.write(i)
}

func (m *model) get(n int) (int, api.Errno) {
	i := m.at(n)
	if i < 0 {
		if n < 0 || n >= len(m.file) {
			return 0, api.ErrArg
		}
		version := m.file[n]
		var e api.Errno
		if i, e = m.free(); e != api.OK {
			return 0, e
		}
		m.places[i] = place{page: n, version: version}
	}
	m.places[i].asked = true
	return m.places[i].version, api.OK
}

func (m *model) put(n, version, lsn int) api.Errno {
	if n < 0 || n >= len(m.file) || lsn < 1 {
		return api.ErrArg
	}
	i := m.at(n)
	if i < 0 {
		var e api.Errno
		if i, e = m.free(); e != api.OK {
			return e
		}
		m.places[i] = place{page: n}
	}
	if !m.places[i].dirty {
		m.places[i].rec = lsn
	}
	m.places[i].version, m.places[i].lsn = version, lsn
	m.places[i].dirty, m.places[i].asked = true, true
	return api.OK
}

func (m *model) evict(n int) api.Errno {
	i := m.at(n)
	if i < 0 {
		return api.OK
	}
	e := m.write(i)
	if e == api.OK {
		m.places[i] = place{page: -1}
	}
	return e
}

func (m *model) dirty() []api.Dirty {
	var l []api.Dirty
	for n := range m.file {
		if i := m.at(n); i >= 0 && m.places[i].dirty {
			l = append(l, api.Dirty{Page: n, LSN: m.places[i].rec})
		}
	}
	return l
}

// same wants the pool to be what the model is, as far as any call but Get and Put tells it.
func (b *bench) same(m *model) {
	b.t.Helper()
	for n := -1; n <= len(m.file); n++ {
		want(b.t, "Has", b.p.Has(n), m.at(n) >= 0)
	}
	b.dirty(m.dirty()...)
	b.counts(m.writes, m.forced...)
	m.forced = nil
}

// tells wants Get to tell what the model tells.
func (b *bench) tells(m *model, n int) {
	b.t.Helper()
	version, e := m.get(n)
	got, f := b.p.Get(n)
	if e != f || e == api.OK && !bytes.Equal(got, bytesOf(version)) || e != api.OK && len(got) != 0 {
		b.t.Fatalf("Get(%d): %d bytes, %v; want version %d, %v", n, len(got), f, version, e)
	}
}

// TestModel calls as it comes, with a force that refuses now and then, and looks at all behind each call. Who leaves next tells where the hand stands, and what is marked.
func TestModel(t *testing.T) { // 5.2, 5.3, 5.4, 5.5, 5.6
	for seed := range 400 {
		g := rand.New(rand.NewSource(int64(seed)))
		frames := 1 + g.Intn(6)
		if seed%40 == 0 {
			frames = 64
		}
		pages := frames + 1 + g.Intn(1+frames)
		b, m := stand(t, pages, frames), modelOf(pages, frames)
		rate := g.Intn(4)
		for k := range 40 + 8*frames {
			b.refuse = api.OK
			if g.Intn(8) < rate {
				b.refuse = api.ErrFull
			}
			m.refuse = b.refuse
			n := g.Intn(pages+2) - 1
			switch g.Intn(6) {
			case 0, 1:
				b.tells(m, n)
			case 2, 3, 4:
				lsn, version := g.Intn(50), 100+k
				want(t, "Put", b.p.Put(n, bytesOf(version), lsn), m.put(n, version, lsn))
			case 5:
				want(t, "Evict", b.p.Evict(n), m.evict(n))
			}
			b.same(m)
		}
		b.refuse, m.refuse = api.OK, api.OK
		for n := range pages {
			b.onFile(n, m.file[n])
		}
		for n := range pages {
			b.tells(m, n)
			b.same(m)
		}
	}
}

// TestShort goes through all short scripts over few pages, in a pool that is empty or full at first, and then sees who leaves first.
func TestShort(t *testing.T) { // 5.2, 5.3, 5.4
	const pages, calls, length = 4, 3 * 3 * 2, 3
	for frames := 1; frames <= 3; frames++ {
		for first := range 2 {
			for script := range calls * calls * calls {
				b, m := stand(t, pages, frames), modelOf(pages, frames)
				for n := range first * frames {
					b.tells(m, n)
				}
				for k := range length {
					b.short(m, k, script%calls)
					script /= calls
				}
				b.refuse, m.refuse = api.OK, api.OK
				for n := pages - 1; n >= 0; n-- {
					b.tells(m, n)
					b.same(m)
				}
			}
		}
	}
}

// short does one call of a script: of three kinds, of three pages, with a force that refuses or does not.
func (b *bench) short(m *model, k, c int) {
	b.t.Helper()
	b.refuse, m.refuse = api.OK, api.OK
	if c >= 9 {
		b.refuse, m.refuse = api.ErrBusy, api.ErrBusy
	}
	n := c % 3
	switch c / 3 % 3 {
	case 0:
		b.tells(m, n)
	case 1:
		want(b.t, "Put", b.p.Put(n, bytesOf(50+k), 9-k), m.put(n, 50+k, 9-k))
	case 2:
		want(b.t, "Evict", b.p.Evict(n), m.evict(n))
	}
	b.same(m)
}
