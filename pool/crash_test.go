package pool_test

import (
	"bytes"
	"math/rand"
	"testing"

	"palimpsest/api"
	"palimpsest/file"
)

// every calls f with each choice of k bools.
func every(k int, f func(keep []bool)) {
	for bits := range 1 << k {
		keep := make([]bool, k)
		for i := range keep {
			keep[i] = bits>>i&1 == 1
		}
		f(keep)
	}
}

// calls are the three that write a page: the one in frame 0 of two, which are both marked, as the hand stands at 0.
func calls() map[string]func(b *bench) api.Errno {
	return map[string]func(b *bench) api.Errno{
		"Get":   func(b *bench) api.Errno { _, e := b.p.Get(3); return e },
		"Put":   func(b *bench) api.Errno { return b.p.Put(3, bytesOf(90), 9) },
		"Evict": func(b *bench) api.Errno { return b.p.Evict(0) },
	}
}

// TestDeviceFails: the device fails at each step of a page's write. The page stays, as dirty as it was; the pool tells all that it holds.
func TestDeviceFails(t *testing.T) { // 5.3, 5.4, 5.5, 5.6
	for name, call := range calls() {
		for fuse := range steps + 1 {
			b := stand(t, 8, 2)
			b.put(0, 50, 5)
			b.put(0, 51, 7)
			b.put(1, 52, 6)
			b.d.Fuse(fuse)
			if e := call(b); fuse == steps {
				want(t, name, e, api.OK)
				b.counts(1, 7)
				want(t, "the page has left", b.p.Has(0), false)
				continue
			} else if e != api.ErrDead {
				t.Fatalf("%s on a fuse of %d: %v", name, fuse, e)
			}
			b.counts(0, 7)
			b.held(0, 1)
			b.dirty(api.Dirty{Page: 0, LSN: 5}, api.Dirty{Page: 1, LSN: 6})
			b.get(0, 51)
			b.get(1, 52)
			b.fails(4, api.ErrDead) // it can't be read, so nobody is asked to leave for it
			b.counts(0)
			crashed(b)
			b.deadFile(name)
		}
	}
}

// crashed wants the file to be whole whatever of what waits is kept: page 0 the old one or the new one.
func crashed(b *bench) {
	b.t.Helper()
	every(b.d.Pending(), func(keep []bool) {
		c := b.d.Copy()
		c.Crash(keep)
		f, e := file.Open(c, 0, 8)
		if e != api.OK {
			b.t.Fatal(e)
		}
		for n := range 8 {
			got, _ := f.Read(n)
			if !bytes.Equal(got, bytesOf(n)) && (n > 0 || !bytes.Equal(got, bytesOf(51))) {
				b.t.Fatalf("page %d is something else behind a crash", n)
			}
		}
	})
}

// deadFile goes on behind a crash with the file that a write failed in: it writes nothing more, so every dirty page stays in memory.
func (b *bench) deadFile(name string) {
	b.t.Helper()
	b.d.Crash(nil)
	b.get(0, 51)
	b.get(1, 52)
	b.put(1, 53, 8)
	want(b.t, "Evict", b.p.Evict(1), api.ErrDead)
	b.counts(0, 8)
	first, second := 7, 8
	if name != "Evict" { // the hand went on behind page 0
		first, second = second, first
	}
	b.fails(4, api.ErrDead)
	b.counts(0, first)
	want(b.t, "Put", b.p.Put(4, bytesOf(1), 30), api.ErrDead)
	b.counts(0, second)
	b.held(0, 1)
	b.dirty(api.Dirty{Page: 0, LSN: 5}, api.Dirty{Page: 1, LSN: 6})
	b.get(0, 51)
	b.get(1, 53)
}

// TestDeadDevice: what is in memory is told and changed, though the device is dead; clean pages leave for others that are put.
func TestDeadDevice(t *testing.T) { // 5.2, 5.3, 5.4
	b := stand(t, 6, 2)
	b.get(0, 0)
	b.get(1, 1)
	b.d.Fuse(0)
	want(t, "Sync", b.d.Sync(), api.ErrDead)
	b.fails(2, api.ErrDead)
	b.held(0, 1)
	b.put(3, 60, 4)
	b.held(1, 3)
	want(t, "Evict of a clean one", b.p.Evict(1), api.OK)
	want(t, "Evict of a dirty one", b.p.Evict(3), api.ErrDead)
	b.put(4, 61, 5)
	b.get(3, 60)
	b.held(3, 4)
	b.counts(0, 4)
	want(t, "Put", b.p.Put(5, bytesOf(5), 6), api.ErrDead)
	b.counts(0, 5) // the hand stood at frame 1, which page 4 is in
	b.dirty(api.Dirty{Page: 3, LSN: 4}, api.Dirty{Page: 4, LSN: 5})
}

// version makes what page n is at an LSN; at 0 it is what it was at first.
func version(n, lsn int) []byte {
	return bytesOf(lsn*8 + n)
}

// TestNeverAheadOfTheLog: whatever a crash keeps, no page on the file is newer than the log, and none older than what has left.
func TestNeverAheadOfTheLog(t *testing.T) { // 5.4, 5.6, W3
	for seed := range 150 {
		g := rand.New(rand.NewSource(int64(seed)))
		pages, frames := 2+g.Intn(6), 1+g.Intn(4)
		b := stand(t, pages, frames)
		old := make([]int, pages) // of each page the LSN of what has left last
		now := make([]int, pages) // and of what was put last
		next, lasting := 1, 0
		b.during = func(lsn int) { lasting = max(lasting, lsn) }
		for range 30 {
			b.d.Fuse(g.Intn(4 * steps))
			for !b.d.Dead() {
				was := b.p.Writes()
				n := g.Intn(pages)
				switch g.Intn(4) {
				case 0:
					if got, e := b.p.Get(n); e == api.OK && !bytes.Equal(got, version(n, now[n])) {
						t.Fatalf("seed %d: Get(%d) tells something else than what was put last", seed, n)
					}
				case 1, 2:
					if b.p.Put(n, version(n, next), next) == api.OK {
						now[n] = next
						next++
					}
				case 3:
					if b.p.Evict(n) == api.OK {
						old[n] = now[n]
					}
				}
				if !b.d.Dead() && b.p.Writes() > was {
					for q := range pages {
						if !b.p.Has(q) {
							old[q] = now[q]
						}
					}
				}
			}
			b.again(g, frames, old, now, lasting)
		}
	}
}

// again goes on behind a crash, and wants each page on the file to be what has left last, or what was put last if the log tells of it.
func (b *bench) again(g *rand.Rand, frames int, old, now []int, lasting int) {
	b.t.Helper()
	keep := make([]bool, g.Intn(8))
	for i := range keep {
		keep[i] = g.Intn(2) == 0
	}
	b.d.Crash(keep)
	var e api.Errno
	if b.f, e = file.Open(b.d, 0, len(old)); e != api.OK {
		b.t.Fatal(e)
	}
	for n := range old {
		got, _ := b.f.Read(n)
		if !bytes.Equal(got, version(n, old[n])) {
			old[n] = now[n]
		}
		if !bytes.Equal(got, version(n, old[n])) || old[n] > lasting {
			b.t.Fatalf("page %d is older than what has left, or newer than the log, which lasts up to %d", n, lasting)
		}
		now[n] = old[n]
	}
	b.p = b.pool(frames)
	b.held()
}
