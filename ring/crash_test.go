package ring_test

import (
	"bytes"
	"math/rand"
	"testing"

	"palimpsest/api"
	"palimpsest/dev"
	"palimpsest/ring"
)

// every calls f with each choice of k bools.
func every(k int, f func(keep []bool)) {
	for bits := range 1 << k {
		keep := make([]bool, k)
		for i := range keep {
			keep[i] = bits>>i&1 == 1
		}
		f(keep)
	}
}

// check opens the ring from some starts, and wants each to end at one of the two places, all at the same; it tells which.
func check(t *testing.T, d *dev.Dev, n, start, old, fresh int) int {
	t.Helper()
	end := open(t, d, 1, n, start).End()
	if end != old && end != fresh {
		t.Fatalf("End is %d, not %d or %d", end, old, fresh)
	}
	for _, from := range []int{start, start + 1, start/size*size + size, old - 1, old} {
		if from < start || from > old {
			continue
		}
		r := open(t, d, 1, n, from)
		b, e := r.Read(from, r.Tail()-from)
		if r.End() != end || e != api.OK || !bytes.Equal(b, stream(from, end-from)) {
			t.Fatalf("from %d: End is %d, not %d; %v", from, r.End(), end, b)
		}
	}
	return end
}

// TestCrashInFlush: a flush that the device fails in, at each of its steps, keeping each choice of what waits, is told wholly or not at all; so is the next one, whatever the first left behind.
func TestCrashInFlush(t *testing.T) { // 2.6
	const n = 6
	for _, start := range []int{0, 3*size + 40, 7 * size} {
		for _, old := range []int{0, 1, size - 1, size, size + 60} {
			for _, more := range []int{1, size - 1, size, size + 30, 2*size + 50} {
				for fuse := range 7 {
					d := device(t, n+2)
					r := open(t, d, 1, n, start)
					push(t, r, old)
					flush(t, r)
					push(t, r, more)
					d.Fuse(fuse)
					e := r.Flush()
					every(d.Pending(), func(keep []bool) {
						c := d.Copy()
						c.Crash(keep)
						end := check(t, c, n, start, start+old, start+old+more)
						if e == api.OK && end == start+old {
							t.Fatalf("%d + %d: what was flushed is gone", old, more)
						}
						again(t, c, n, start, end)
					})
				}
			}
		}
	}
}

// again flushes little and much, and crashes with the sectors of the last crash still there.
func again(t *testing.T, d *dev.Dev, n, start, end int) {
	t.Helper()
	for _, more := range []int{1, size - end%size, size + 1} {
		for fuse := range 6 {
			c := d.Copy()
			r := open(t, c, 1, n, start)
			if r.Room() < more {
				break
			}
			push(t, r, more)
			c.Fuse(fuse)
			e := r.Flush()
			keep := make([]bool, c.Pending())
			for i := range keep {
				keep[i] = (i+fuse)%2 == 0
			}
			c.Crash(keep)
			got := check(t, c, n, start, end, end+more)
			if e == api.OK && got == end {
				t.Fatal("what was flushed is gone")
			}
		}
	}
}

// model is what a ring must be, besides the device: what lasts for certain, and what may last.
type model struct {
	start, end, tail int
}

// TestManyCrashes goes round a ring many times with appends, flushes, trims and crashes as they come.
func TestManyCrashes(t *testing.T) { // 2.3 to 2.7
	for seed := range 60 {
		g := rand.New(rand.NewSource(int64(seed)))
		n := 2 + g.Intn(5)
		d := device(t, n+2)
		for i := range n + 2 {
			junk := noughts()
			g.Read(junk)
			write(t, d, i, junk)
		}
		d.Sync()
		edges := [2][]byte{sector(t, d, 0), sector(t, d, n+1)}
		from := g.Intn(1000)
		r, m := open(t, d, 1, n, from), model{from, from, from}
		for range 600 {
			if r = turn(t, g, d, r, &m, n); t.Failed() {
				t.Fatalf("seed %d: %+v", seed, m)
			}
		}
		lies(t, d, 0, edges[0])
		lies(t, d, n+1, edges[1])
		if m.end-from < 3*n*size {
			t.Errorf("seed %d did not go round often: from %d to %d", seed, from, m.end)
		}
	}
}

// turn makes one call, or a crash, and holds the ring against the model.
func turn(t *testing.T, g *rand.Rand, d *dev.Dev, r *ring.Ring, m *model, n int) *ring.Ring {
	t.Helper()
	room := max(0, (m.start/size+n-1)*size-m.tail)
	switch g.Intn(9) {
	case 0, 1, 2:
		k := g.Intn(room + 1 + room/4)
		if g.Intn(3) == 0 {
			k = g.Intn(3 * size)
		}
		e := r.Append(stream(m.tail, k))
		if k > room {
			want(t, "Append of too much", e, api.ErrFull)
			break
		}
		want(t, "Append", e, api.OK)
		m.tail += k
	case 3, 4, 5:
		want(t, "Flush", r.Flush(), api.OK)
		m.end = m.tail
	case 6, 7:
		m.start += g.Intn(m.end - m.start + 1)
		want(t, "Trim", r.Trim(m.start), api.OK)
	default:
		d.Fuse(g.Intn(8))
		if e := r.Flush(); e == api.OK {
			m.end = m.tail
		}
		keep := make([]bool, g.Intn(8))
		for i := range keep {
			keep[i] = g.Intn(2) == 0
		}
		d.Crash(keep)
		m.end = check(t, d, n, m.start, m.end, m.tail)
		m.tail = m.end
		r = open(t, d, 1, n, m.start)
	}
	tells(t, r, m.start, m.end, m.tail, max(0, (m.start/size+n-1)*size-m.tail))
	return r
}

// TestForgedSectors: a stream that is made of a ring's sectors, laid at each place of it, is told as bytes alone.
func TestForgedSectors(t *testing.T) { // 2.7
	const n = 6
	var forged []byte
	for s := range n {
		forged = append(forged, image(s, size, bytes.Repeat([]byte{0xF0}, size))...)
	}
	for lead := range size {
		d := device(t, n+2)
		r := open(t, d, 1, n, 0)
		text := append(make([]byte, lead), forged[:(n-2)*size]...)
		want(t, "Append", r.Append(text), api.OK)
		d.Fuse(n - 1 + lead%3)
		e := r.Flush()
		d.Crash([]bool{true, true, true, true, true, true})
		q := open(t, d, 1, n, 0)
		b, _ := q.Read(0, q.Tail())
		if q.End() != 0 && q.End() != len(text) || e == api.OK && q.End() == 0 || !bytes.Equal(b, text[:q.End()]) {
			t.Fatalf("%d ahead: %v, End %d", lead, e, q.End())
		}
	}
}

// TestSectorsWrittenOver: whatever somebody wrote over the ring's sectors, Open takes no more than those that name their place, and what is flushed behind is told.
func TestSectorsWrittenOver(t *testing.T) { // 2.2, 2.6, 2.7
	const n = 5
	for seed := range 200 {
		g := rand.New(rand.NewSource(int64(seed)))
		d := device(t, n+2)
		start := g.Intn(2000)
		r := open(t, d, 1, n, start)
		push(t, r, 1+g.Intn(r.Room()))
		flush(t, r)
		end := r.End()
		hit := start/size + g.Intn(n)
		b := sector(t, d, 1+hit%n)
		b[g.Intn(8)] ^= byte(1 + g.Intn(255))
		write(t, d, 1+hit%n, b)
		stop := max(start, min(end, hit*size))
		q := open(t, d, 1, n, start)
		tells(t, q, start, stop, stop, (start/size+n-1)*size-stop)
		more := 1 + g.Intn(q.Room())
		push(t, q, more)
		flush(t, q)
		tells(t, open(t, d, 1, n, start), start, stop+more, stop+more, q.Room())
	}
}
