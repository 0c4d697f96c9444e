package file_test

import (
	"bytes"
	"math/rand"
	"testing"

	"palimpsest/api"
	"palimpsest/dev"
	"palimpsest/file"
)

// every calls f with each choice of k bools.
func every(k int, f func(keep []bool)) {
	for bits := range 1 << k {
		keep := make([]bool, k)
		for i := range keep {
			keep[i] = bits>>i&1 == 1
		}
		f(keep)
	}
}

// check opens the file and wants all pages as they were, but page p: old or fresh, and fresh if that Write was answered; it tells which.
func check(t *testing.T, d *dev.Dev, p int, answered bool, old, fresh []byte) []byte {
	t.Helper()
	f := open(t, d, 2, 3)
	for q := range 3 {
		if q != p {
			holds(t, f, q, bytesOf(q))
		}
	}
	b, e := f.Read(p)
	if e != api.OK || !bytes.Equal(b, old) && !bytes.Equal(b, fresh) || answered && !bytes.Equal(b, fresh) {
		t.Fatalf("page %d is neither the old nor the new one (answered: %v): %v, %v", p, answered, firsts(b), e)
	}
	d.Crash(nil)
	f = open(t, d, 2, 3)
	holds(t, f, p, b)
	if d.Pending() != 0 {
		t.Fatal("Open left writes that wait")
	}
	return b
}

// written makes a device with three pages on it, all lasting.
func written(t *testing.T) (*dev.Dev, *file.File) {
	t.Helper()
	d := device(t, 20)
	f := open(t, d, 2, 3)
	for q := range 3 {
		want(t, "Write", f.Write(q, bytesOf(q)), api.OK)
	}
	return d, f
}

// TestCrashInWrite: a device that fails at each step of a Write, keeping each choice of what waits; then at each step of the Open behind, keeping each choice again.
func TestCrashInWrite(t *testing.T) { // 4.4
	for p := range 3 {
		for fuse := range steps + 1 {
			d, f := written(t)
			d.Fuse(fuse)
			e := f.Write(p, bytesOf(9))
			every(d.Pending(), func(keep []bool) {
				c := d.Copy()
				c.Crash(keep)
				crashInOpen(t, c, p, e == api.OK)
				was := check(t, c, p, e == api.OK, bytesOf(p), bytesOf(9))
				crashAgain(t, c, p, was)
			})
		}
	}
}

// crashInOpen lets the device fail at each step of an Open.
func crashInOpen(t *testing.T, d *dev.Dev, p int, answered bool) {
	t.Helper()
	for fuse := range mends {
		c := d.Copy()
		c.Fuse(fuse)
		if f, e := file.Open(c, 2, 3); f != nil != (e == api.OK) || e != api.OK && e != api.ErrDead {
			t.Fatalf("Open on a fuse of %d = %v, %v", fuse, f, e)
		}
		every(c.Pending(), func(keep []bool) {
			k := c.Copy()
			k.Crash(keep)
			check(t, k, p, answered, bytesOf(p), bytesOf(9))
		})
	}
}

// crashAgain writes once more over what the last crash left in the journal.
func crashAgain(t *testing.T, d *dev.Dev, p int, was []byte) {
	t.Helper()
	for fuse := range steps + 1 {
		c := d.Copy()
		f := open(t, c, 2, 3)
		c.Fuse(fuse)
		e := f.Write(p, bytesOf(20))
		keep := make([]bool, c.Pending())
		for i := range keep {
			keep[i] = (i+fuse)%2 == 0
		}
		c.Crash(keep)
		check(t, c, p, e == api.OK, was, bytesOf(20))
	}
}

// TestOpenFailsOften: Opens that fail one behind the other, as often as they come.
func TestOpenFailsOften(t *testing.T) { // 4.4
	for seed := range 300 {
		g := rand.New(rand.NewSource(int64(seed)))
		d, f := written(t)
		d.Fuse(7 + g.Intn(steps-7))
		want(t, "Write", f.Write(1, bytesOf(9)), api.ErrDead)
		for range 30 {
			crash(g, d)
			d.Fuse(g.Intn(mends))
			if f, e := file.Open(d, 2, 3); e == api.OK {
				holds(t, f, 1, bytesOf(9))
			}
		}
		crash(g, d)
		check(t, d, 1, true, bytesOf(9), bytesOf(9))
	}
}

// crash keeps what g says of what waits.
func crash(g *rand.Rand, d *dev.Dev) {
	keep := make([]bool, g.Intn(8))
	for i := range keep {
		keep[i] = g.Intn(2) == 0
	}
	d.Crash(keep)
}

// TestManyCrashes writes pages and crashes as they come, beside sectors that are not the file's.
func TestManyCrashes(t *testing.T) { // 4.3, 4.4
	for seed := range 60 {
		g := rand.New(rand.NewSource(int64(seed)))
		from, pages := g.Intn(6), 1+g.Intn(5)
		size := from + ahead + 4*pages + g.Intn(3)
		d := strange(t, size, from)
		was := image(t, d)
		f := open(t, d, from, pages)
		for n := range 400 {
			p, b := g.Intn(pages), bytesOf(n)
			at := (from + ahead + 4*p) * sector
			if g.Intn(3) > 0 {
				want(t, "Write", f.Write(p, b), api.OK)
				copy(was[at:], b)
				continue
			}
			d.Fuse(g.Intn(steps + 1))
			e := f.Write(p, b)
			for range g.Intn(4) {
				crash(g, d)
				d.Fuse(g.Intn(mends))
				file.Open(d, from, pages)
			}
			crash(g, d)
			f = open(t, d, from, pages)
			if got, _ := f.Read(p); e == api.OK || !bytes.Equal(got, was[at:at+whole]) {
				copy(was[at:], b)
			}
			same(t, d, was, from)
		}
		same(t, d, was, from)
	}
}

// same wants all of the device to be as it was, but the journal, whose head is noughts.
func same(t *testing.T, d *dev.Dev, was []byte, from int) {
	t.Helper()
	now := image(t, d)
	copy(now[(from+1)*sector:(from+ahead)*sector], was[(from+1)*sector:])
	if !bytes.Equal(now, was) {
		t.Fatal("the device holds something else than its pages and what lies beside them")
	}
}

// TestSectorsWrittenOver: whatever somebody wrote over the sectors, Open tells what is there, and what is written behind lasts.
func TestSectorsWrittenOver(t *testing.T) { // 4.2, 4.4, 4.5
	for seed := range 300 {
		g := rand.New(rand.NewSource(int64(seed)))
		d, _ := written(t)
		for i := range d.Size() {
			if g.Intn(2) == 0 {
				b := make([]byte, sector)
				g.Read(b)
				put(t, d, i, b)
			}
		}
		if g.Intn(3) == 0 {
			put(t, d, 2, head(uint64(g.Intn(6))))
		}
		was := image(t, d)
		if v := was[2*sector+7]; v >= 1 && v <= 3 && bytes.Equal(was[2*sector:3*sector], head(uint64(v))) {
			copy(was[(7+4*(int(v)-1))*sector:], was[3*sector:7*sector])
			copy(was[2*sector:], make([]byte, sector))
		}
		f := open(t, d, 2, 3)
		if !bytes.Equal(image(t, d), was) {
			t.Fatalf("seed %d: Open made something else of it", seed)
		}
		p := g.Intn(3)
		want(t, "Write", f.Write(p, bytesOf(50)), api.OK)
		d.Crash(nil)
		holds(t, open(t, d, 2, 3), p, bytesOf(50))
	}
}
