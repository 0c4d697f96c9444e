package ring_test

import (
	"bytes"
	"math"
	"slices"
	"strconv"
	"testing"

	"palimpsest/api"
	"palimpsest/dev"
	"palimpsest/ring"
)

const (
	size = 118     // bytes of the stream in a sector
	far  = 1 << 40 // the farthest start
)

func device(t *testing.T, n int) *dev.Dev {
	t.Helper()
	d, e := dev.New(n)
	if e != api.OK {
		t.Fatal(e)
	}
	return d
}

func open(t *testing.T, d *dev.Dev, from, n, start int) *ring.Ring {
	t.Helper()
	r, e := ring.Open(d, from, n, start)
	if e != api.OK || r == nil {
		t.Fatalf("Open(d, %d, %d, %d) = %v, %v", from, n, start, r, e)
	}
	return r
}

func want(t *testing.T, what string, got, want any) {
	t.Helper()
	if got != want {
		t.Errorf("%s: got %v, want %v", what, got, want)
	}
}

// stream makes the bytes from pos on; what stands at a place tells neighbours and sectors apart.
func stream(pos, k int) []byte {
	b := make([]byte, k)
	for i := range b {
		p := pos + i
		b[i] = byte(p*7 + p/size*13 + 1)
	}
	return b
}

// push appends the stream's next k bytes.
func push(t *testing.T, r *ring.Ring, k int) {
	t.Helper()
	if e := r.Append(stream(r.Tail(), k)); e != api.OK {
		t.Fatalf("Append(%d bytes) = %v", k, e)
	}
}

func flush(t *testing.T, r *ring.Ring) {
	t.Helper()
	if e := r.Flush(); e != api.OK {
		t.Fatalf("Flush = %v", e)
	}
}

// tells wants all of the ring's four numbers, and its bytes as stream makes them.
func tells(t *testing.T, r *ring.Ring, start, end, tail, room int) {
	t.Helper()
	want(t, "Start", r.Start(), start)
	want(t, "End", r.End(), end)
	want(t, "Tail", r.Tail(), tail)
	want(t, "Room", r.Room(), room)
	b, e := r.Read(start, tail-start)
	if e != api.OK || !bytes.Equal(b, stream(start, tail-start)) {
		t.Errorf("Read(%d, %d) = %v, %v", start, tail-start, b, e)
	}
}

// image makes a sector of the stream: its number and one more, its count, its bytes, noughts.
func image(s, count int, b []byte) []byte {
	l := make([]byte, api.SectorSize)
	for i := range 8 {
		l[i] = byte((s + 1) >> (56 - 8*i))
	}
	l[8], l[9] = byte(count>>8), byte(count)
	copy(l[10:], b)
	return l
}

// whole makes the image of the stream's sector s with its first count bytes.
func whole(s, count int) []byte {
	return image(s, count, stream(s*size, count))
}

func sector(t *testing.T, d *dev.Dev, i int) []byte {
	t.Helper()
	b, e := d.Read(i)
	if e != api.OK {
		t.Fatal(i, e)
	}
	return b
}

func write(t *testing.T, d *dev.Dev, i int, b []byte) {
	t.Helper()
	if e := d.Write(i, b); e != api.OK {
		t.Fatal(i, e)
	}
}

func lies(t *testing.T, d *dev.Dev, i int, b []byte) {
	t.Helper()
	if got := sector(t, d, i); !bytes.Equal(got, b) {
		t.Errorf("sector %d: got %v, want %v", i, got, b)
	}
}

func noughts() []byte {
	return make([]byte, api.SectorSize)
}

func TestExamples(t *testing.T) { // the chapter's table
	d := device(t, 12)
	r := open(t, d, 8, 4, 0)
	tells(t, r, 0, 0, 0, 354)
	push(t, r, 200)
	tells(t, r, 0, 0, 200, 154)
	flush(t, r)
	tells(t, r, 0, 200, 200, 154)
	want(t, "Append(155)", r.Append(make([]byte, 155)), api.ErrFull)
	want(t, "Trim(118)", r.Trim(118), api.OK)
	tells(t, r, 118, 200, 200, 272)
}

func TestBytesLieWhereTheyShould(t *testing.T) { // 2.1
	d := device(t, 9)
	for i := range 9 {
		write(t, d, i, bytes.Repeat([]byte{0xEE}, api.SectorSize))
	}
	r := open(t, d, 3, 4, 0)
	push(t, r, 2*size+5)
	flush(t, r)
	lies(t, d, 3, whole(0, size))
	lies(t, d, 4, whole(1, size))
	lies(t, d, 5, whole(2, 5))
	lies(t, d, 6, noughts())
	for _, i := range []int{0, 1, 2, 7, 8} {
		lies(t, d, i, bytes.Repeat([]byte{0xEE}, api.SectorSize))
	}
	want(t, "Pending", d.Pending(), 0)
	want(t, "Trim", r.Trim(2*size), api.OK)
	push(t, r, 2*size)
	flush(t, r)
	lies(t, d, 5, whole(2, size))
	lies(t, d, 6, whole(3, size))
	lies(t, d, 3, whole(4, 5))
	lies(t, d, 4, noughts())
	for _, i := range []int{0, 1, 2, 7, 8} {
		lies(t, d, i, bytes.Repeat([]byte{0xEE}, api.SectorSize))
	}
}

func TestFarNumbersLieInEightBytes(t *testing.T) { // 2.1, 2.2
	for _, start := range []int{255 * size, 65536*size - size, 1 << 32, far - 1, far} {
		d := device(t, 5)
		r := open(t, d, 1, 3, start)
		want(t, "End", r.End(), start)
		push(t, r, size)
		flush(t, r)
		s, lead := start/size, start%size
		got := sector(t, d, 1+s%3)
		b := append(make([]byte, lead), stream(start, size-lead)...)
		if !bytes.Equal(got, image(s, size, b)) {
			t.Errorf("start %d: sector %v", start, got)
		}
		q := open(t, d, 1, 3, start)
		tells(t, q, start, start+size, start+size, r.Room())
	}
}

func TestOpenRefuses(t *testing.T) { // 2.2
	d := device(t, 8)
	for _, x := range [][3]int{
		{0, 1, 0}, {0, 0, 0}, {0, -1, 0}, {0, math.MinInt, 0}, {0, 9, 0}, {0, api.MaxSectors + 1, 0}, {0, math.MaxInt, 0},
		{-1, 2, 0}, {-1, 9, 0}, {7, 2, 0}, {8, 2, 0}, {math.MaxInt, 2, 0}, {math.MinInt, 2, 0}, {math.MaxInt, math.MaxInt, 0},
		{0, 2, -1}, {0, 2, far + 1}, {0, 2, math.MaxInt}, {0, 2, math.MinInt},
	} {
		if r, e := ring.Open(d, x[0], x[1], x[2]); r != nil || e != api.ErrArg {
			t.Errorf("Open(d, %v) = %v, %v", x, r, e)
		}
	}
	want(t, "Calls", d.Calls(), 0)
	if r, e := ring.Open(nil, 0, 2, 0); r != nil || e != api.ErrArg {
		t.Errorf("Open(nil) = %v, %v", r, e)
	}
	for _, x := range [][3]int{{0, 2, 0}, {6, 2, 0}, {0, 8, 0}, {0, 2, far}} {
		open(t, d, x[0], x[1], x[2])
	}
	all := device(t, api.MaxSectors)
	tells(t, open(t, all, 0, api.MaxSectors, 0), 0, 0, 0, (api.MaxSectors-1)*size)
}

func TestOpenOfADeadDevice(t *testing.T) { // 2.2
	d := device(t, 8)
	d.Fuse(0)
	d.Sync()
	if r, e := ring.Open(d, 0, 2, 0); r != nil || e != api.ErrDead {
		t.Errorf("Open = %v, %v", r, e)
	}
	if r, e := ring.Open(d, 0, 9, 0); r != nil || e != api.ErrArg {
		t.Errorf("Open of too many = %v, %v", r, e)
	}
	d.Crash(nil)
	open(t, d, 0, 2, 0)
}

// TestOpenReadsHeads: a sector is there only if its number and its count are right, and the next is asked only behind a full one.
func TestOpenReadsHeads(t *testing.T) { // 2.2, 2.7
	for _, x := range []struct {
		what    string
		sectors [][]byte
		start   int
		end     int
	}{
		{"noughts", nil, 0, 0},
		{"one byte", [][]byte{whole(0, 1)}, 0, 1},
		{"a full one", [][]byte{whole(0, size)}, 0, size},
		{"two", [][]byte{whole(0, size), whole(1, 3)}, 0, size + 3},
		{"a second behind one that isn't full", [][]byte{whole(0, size-1), whole(1, 3)}, 0, size - 1},
		{"the number below", [][]byte{image(-1, 4, stream(0, 4))}, 0, 0},
		{"the number above", [][]byte{whole(1, 4)}, 0, 0},
		{"the number a round later", [][]byte{whole(4, 4)}, 0, 0},
		{"the number's first byte wrong", [][]byte{image(1<<56, 4, stream(0, 4))}, 0, 0},
		{"the number's sign wrong", [][]byte{image(math.MinInt, 4, stream(0, 4))}, 0, 0},
		{"no count", [][]byte{image(0, 0, stream(0, 4))}, 0, 0},
		{"a count too great", [][]byte{image(0, size+1, stream(0, size))}, 0, 0},
		{"a count with a first byte", [][]byte{image(0, 256+4, stream(0, size))}, 0, 0},
		{"the greatest count", [][]byte{image(0, 65535, stream(0, size))}, 0, 0},
		{"a second of a wrong number", [][]byte{whole(0, size), whole(2, 5)}, 0, size},
		{"a second without a count", [][]byte{whole(0, size), image(1, 0, nil)}, 0, size},
		{"a second of a count too great", [][]byte{whole(0, size), image(1, size+1, stream(size, size))}, 0, size},
		{"the start ahead of the count", [][]byte{whole(0, 5)}, 4, 5},
		{"the start at the count", [][]byte{whole(0, 5)}, 5, 5},
		{"the start behind the count", [][]byte{whole(0, 5)}, 6, 6},
		{"the start in a full one", [][]byte{whole(0, size), whole(1, 5)}, size - 1, size + 5},
		{"the start at a full one's end", [][]byte{whole(0, size), whole(1, 5)}, size, size + 5},
		{"the start in the second", [][]byte{noughts(), whole(1, size), whole(2, 1)}, size + 1, 2*size + 1},
		{"the start's lead bounds the first alone", [][]byte{whole(0, size), whole(1, 2)}, size - 8, size + 2},
		{"all of them", [][]byte{whole(0, size), whole(1, size), whole(2, size), whole(3, size)}, 0, 4 * size},
		{"all of them from the third on", [][]byte{whole(4, size), whole(5, size), whole(2, size), whole(3, size)}, 2*size + 9, 6 * size},
		{"all but the last one, which isn't full", [][]byte{whole(4, size), whole(5, 7), whole(2, size), whole(3, size)}, 2*size + 9, 5*size + 7},
		{"a round ago", [][]byte{whole(4, size), whole(1, size), whole(2, size), whole(3, size)}, 4 * size, 5 * size},
	} {
		t.Run(x.what, func(t *testing.T) {
			d := device(t, 6)
			for i, b := range x.sectors {
				write(t, d, 1+i, b)
			}
			calls, pending := d.Calls(), d.Pending()
			r := open(t, d, 1, 4, x.start)
			tells(t, r, x.start, x.end, x.end, max(0, (x.start/size+3)*size-x.end))
			if d.Calls()-calls > 4 || d.Pending() != pending {
				t.Errorf("Open read %d sectors, and wrote %d", d.Calls()-calls, d.Pending()-pending)
			}
		})
	}
}

func TestOpenMindsNoNoughts(t *testing.T) { // 2.2: what stands behind the count is not asked
	d := device(t, 4)
	b := whole(0, 5)
	for i := 15; i < len(b); i++ {
		b[i] = 0xEE
	}
	write(t, d, 0, b)
	tells(t, open(t, d, 0, 4, 0), 0, 5, 5, 3*size-5)
}

func TestAppendAndRoom(t *testing.T) { // 2.3
	d := device(t, 4)
	r := open(t, d, 0, 2, 0)
	calls := d.Calls()
	tells(t, r, 0, 0, 0, size)
	want(t, "Append of too much", r.Append(make([]byte, size+1)), api.ErrFull)
	tells(t, r, 0, 0, 0, size)
	want(t, "Append(nil)", r.Append(nil), api.OK)
	push(t, r, 100)
	want(t, "Append of too much", r.Append(make([]byte, 19)), api.ErrFull)
	push(t, r, 18)
	tells(t, r, 0, 0, size, 0)
	want(t, "Append of nothing to no room", r.Append([]byte{}), api.OK)
	want(t, "Append of one to no room", r.Append([]byte{1}), api.ErrFull)
	want(t, "calls of the device", d.Calls(), calls)
	flush(t, r)
	tells(t, r, 0, size, size, 0)
	want(t, "Trim", r.Trim(size-1), api.OK)
	tells(t, r, size-1, size, size, 0)
	want(t, "Trim", r.Trim(size), api.OK)
	tells(t, r, size, size, size, size)
}

func TestRoomIsNeverBelowNought(t *testing.T) { // 2.3
	d := device(t, 4)
	for i := range 4 {
		write(t, d, i, whole(i, size))
	}
	r := open(t, d, 0, 4, 0)
	tells(t, r, 0, 4*size, 4*size, 0)
	want(t, "Append(nil)", r.Append(nil), api.OK)
	want(t, "Append of one", r.Append([]byte{1}), api.ErrFull)
	flush(t, r)
	want(t, "Trim", r.Trim(size+5), api.OK)
	tells(t, r, size+5, 4*size, 4*size, 0)
	want(t, "Trim", r.Trim(2*size), api.OK)
	tells(t, r, 2*size, 4*size, 4*size, size)
	push(t, r, size)
	flush(t, r)
	tells(t, open(t, d, 0, 4, 2*size), 2*size, 5*size, 5*size, 0)
}

// steps tells which Writes and Syncs run makes, one behind the other: a fuse stops it ahead of each, on a copy of the device.
func steps(t *testing.T, d *dev.Dev, run func(d *dev.Dev) api.Errno) []string {
	t.Helper()
	var l []string
	before := d.Copy()
	for k := 1; ; k++ {
		c := d.Copy()
		c.Fuse(k)
		e := run(c)
		if e != api.OK && (e != api.ErrDead || !c.Dead()) {
			t.Fatal(k, e)
		}
		now := c.Copy()
		now.Crash(slices.Repeat([]bool{true}, c.Pending()))
		l = append(l, "sync")
		for i := range now.Size() {
			if b := sector(t, now, i); c.Pending() > 0 && !bytes.Equal(b, sector(t, before, i)) {
				l[k-1] = "write " + strconv.Itoa(i)
			}
		}
		before = now
		if e == api.OK {
			return l
		}
	}
}

func TestFlushGoesInOrder(t *testing.T) { // 2.4
	for _, x := range []struct {
		start, old, more int
		steps            []string
	}{
		{0, 0, 1, []string{"write 2", "sync", "write 1", "sync"}},
		{0, 0, size, []string{"write 2", "sync", "write 1", "sync"}},
		{0, 0, size + 1, []string{"write 2", "write 3", "sync", "write 1", "sync"}},
		{0, 7, 1, []string{"write 2", "sync", "write 1", "sync"}},
		{0, 7, size - 7, []string{"write 2", "sync", "write 1", "sync"}},
		{0, 7, size - 6, []string{"write 2", "write 3", "sync", "write 1", "sync"}},
		{0, 7, 3 * size, []string{"write 2", "write 3", "write 4", "write 5", "sync", "write 1", "sync"}},
		{0, size, 1, []string{"write 3", "sync", "write 2", "sync"}},
		{0, size, size, []string{"write 3", "sync", "write 2", "sync"}},
		{3*size + 9, 9, 1, []string{"write 5", "sync", "write 4", "sync"}},
		{3*size + 9, 9, 3 * size, []string{"write 5", "write 1", "write 2", "write 3", "sync", "write 4", "sync"}},
	} {
		d := device(t, 7)
		for i := 1; i < 6; i++ {
			write(t, d, i, bytes.Repeat([]byte{0xEE}, api.SectorSize))
		}
		r := open(t, d, 1, 5, x.start)
		push(t, r, x.old)
		flush(t, r)
		for i := 1; i < 6; i++ { // so that noughts written over noughts are seen
			if bytes.Equal(sector(t, d, i), noughts()) {
				write(t, d, i, bytes.Repeat([]byte{0xEE}, api.SectorSize))
			}
		}
		d.Sync()
		var last *ring.Ring
		got := steps(t, d, func(c *dev.Dev) api.Errno {
			last = open(t, c, 1, 5, x.start)
			push(t, last, x.more)
			e := last.Flush()
			if e != api.OK {
				want(t, "End", last.End(), x.start+x.old)
			}
			return e
		})
		if !slices.Equal(got, x.steps) {
			t.Errorf("%d and %d bytes: %v, want %v", x.old, x.more, got, x.steps)
		}
		want(t, "End", last.End(), x.start+x.old+x.more)
	}
}

func TestFlushOfNothing(t *testing.T) { // 2.4
	d := device(t, 6)
	r := open(t, d, 1, 4, 0)
	for range 3 {
		calls := d.Calls()
		flush(t, r)
		want(t, "Calls", d.Calls(), calls)
		want(t, "Trim", r.Trim(r.End()), api.OK)
		push(t, r, 2*size-3)
		flush(t, r)
	}
	d.Fuse(0)
	flush(t, r)
	want(t, "Dead", d.Dead(), false)
}

// TestBytesAheadOfStart: the sector of Start keeps what stands there ahead of it, if it is that sector.
func TestBytesAheadOfStart(t *testing.T) { // 2.4
	ahead := bytes.Repeat([]byte{0xAA}, size)
	for _, x := range []struct {
		what string
		old  []byte
		kept bool
	}{
		{"nothing there", noughts(), false},
		{"the sector itself", image(6, size, ahead), true},
		{"the sector, too short", image(6, 3, ahead), true},
		{"the sector, without a count", image(6, 0, ahead), true},
		{"the sector, of a wild count", image(6, 65535, ahead), true},
		{"the sector a round ago", image(2, size, ahead), false},
		{"the sector below", image(5, size, ahead), false},
		{"the sector above", image(7, size, ahead), false},
	} {
		for _, lead := range []int{1, 50, size - 1} {
			d := device(t, 6)
			r := open(t, d, 1, 4, 6*size+lead)
			write(t, d, 3, x.old)
			push(t, r, 1)
			flush(t, r)
			b := make([]byte, lead)
			if x.kept {
				copy(b, ahead)
			}
			b = append(b, stream(6*size+lead, 1)...)
			if got := sector(t, d, 3); !bytes.Equal(got, image(6, lead+1, b)) {
				t.Errorf("%s, %d ahead: %v", x.what, lead, got)
			}
		}
	}
}

func TestBytesAheadOfATrim(t *testing.T) { // 2.4, 2.5
	d := device(t, 6)
	r := open(t, d, 1, 4, 0)
	push(t, r, size+60)
	flush(t, r)
	want(t, "Trim", r.Trim(size+50), api.OK)
	push(t, r, 100)
	flush(t, r)
	lies(t, d, 2, whole(1, size))
	lies(t, d, 3, whole(2, 42))
	tells(t, open(t, d, 1, 4, 3), 3, size+160, size+160, 3*size-size-160)
	tells(t, open(t, d, 1, 4, size+1), size+1, size+160, size+160, 4*size-size-160)
}

func TestBytesFromStartOnAreThoseInMemory(t *testing.T) { // 2.4: a sector that somebody wrote over is made good
	d := device(t, 6)
	r := open(t, d, 1, 4, 0)
	push(t, r, 60)
	flush(t, r)
	write(t, d, 1, bytes.Repeat([]byte{0xEE}, api.SectorSize))
	push(t, r, 5)
	flush(t, r)
	lies(t, d, 1, whole(0, 65))
	tells(t, open(t, d, 1, 4, 0), 0, 65, 65, 3*size-65)
}

func TestReadRefuses(t *testing.T) { // 2.5
	d := device(t, 6)
	r := open(t, d, 1, 4, 0)
	push(t, r, 100)
	flush(t, r)
	want(t, "Trim", r.Trim(10), api.OK)
	push(t, r, 20)
	for _, x := range [][2]int{
		{10, -1}, {10, math.MinInt}, {9, 0}, {9, 1}, {0, 10}, {-1, 5}, {math.MinInt, 0}, {10, 111}, {120, 1}, {121, 0}, {121, -1},
		{math.MaxInt, 0}, {math.MaxInt, math.MaxInt}, {10, math.MaxInt}, {math.MaxInt, 1}, {math.MinInt, math.MaxInt}, {50, math.MaxInt - 10},
	} {
		if b, e := r.Read(x[0], x[1]); len(b) != 0 || e != api.ErrArg {
			t.Errorf("Read(%v) = %v, %v", x, b, e)
		}
	}
	for _, x := range [][2]int{{10, 0}, {10, 1}, {10, 110}, {99, 2}, {100, 20}, {119, 1}, {120, 0}, {60, 0}} {
		if b, e := r.Read(x[0], x[1]); e != api.OK || !bytes.Equal(b, stream(x[0], x[1])) {
			t.Errorf("Read(%v) = %v, %v", x, b, e)
		}
	}
}

func TestTrim(t *testing.T) { // 2.5
	d := device(t, 6)
	r := open(t, d, 1, 4, 0)
	push(t, r, 200)
	want(t, "Trim of what does not last", r.Trim(1), api.ErrArg)
	flush(t, r)
	push(t, r, 50)
	calls := d.Calls()
	want(t, "Trim", r.Trim(0), api.OK)
	tells(t, r, 0, 200, 250, 3*size-250)
	want(t, "Trim", r.Trim(150), api.OK)
	tells(t, r, 150, 200, 250, 4*size-250)
	for _, pos := range []int{149, 0, -1, math.MinInt, 201, 250, math.MaxInt} {
		want(t, "Trim", r.Trim(pos), api.ErrArg)
	}
	tells(t, r, 150, 200, 250, 4*size-250)
	want(t, "Trim", r.Trim(200), api.OK)
	tells(t, r, 200, 200, 250, 4*size-250)
	want(t, "calls of the device", d.Calls(), calls)
	flush(t, r)
	tells(t, open(t, d, 1, 4, 0), 0, 250, 250, 3*size-250)
	want(t, "Trim", r.Trim(250), api.OK)
	tells(t, r, 250, 250, 250, 5*size-250)
}

// TestBehindADeviceError: a ring whose device failed takes nothing more, though the device be well again; it still tells what it has.
func TestBehindADeviceError(t *testing.T) { // 2.3, 2.4, 2.5
	for fuse := range 5 {
		d := device(t, 6)
		r := open(t, d, 1, 4, 0)
		push(t, r, 10)
		flush(t, r)
		push(t, r, size)
		d.Fuse(fuse)
		want(t, "Flush", r.Flush(), api.ErrDead)
		for range 2 {
			tells(t, r, 0, 10, 10+size, 2*size-10)
			want(t, "Append", r.Append([]byte{1}), api.ErrDead)
			want(t, "Append(nil)", r.Append(nil), api.ErrDead)
			want(t, "Append of too much", r.Append(make([]byte, 1000)), api.ErrDead)
			want(t, "Flush", r.Flush(), api.ErrDead)
			d.Crash(nil)
			calls := d.Calls()
			want(t, "Flush of a device that is well", r.Flush(), api.ErrDead)
			want(t, "calls of the device", d.Calls(), calls)
		}
		want(t, "Trim", r.Trim(11), api.ErrArg)
		want(t, "Trim", r.Trim(5), api.OK)
		tells(t, r, 5, 10, 10+size, 2*size-10)
	}
}

func TestMemory(t *testing.T) { // 2.8
	d := device(t, 6)
	r := open(t, d, 1, 4, 0)
	in := stream(0, 300)
	spare := append(stream(0, 300), 1, 2, 3)
	want(t, "Append", r.Append(spare[:150]), api.OK)
	want(t, "Append", r.Append(spare[150:200]), api.OK)
	clear(spare[:200])
	if !bytes.Equal(spare[200:], append(slices.Clone(in[200:]), 1, 2, 3)) {
		t.Error("Append wrote on what was handed in")
	}
	tells(t, r, 0, 0, 200, 3*size-200)
	for range 2 {
		b, _ := r.Read(0, 200)
		c, _ := r.Read(50, 60)
		clear(b[:cap(b)])
		if !bytes.Equal(c, in[50:110]) {
			t.Error("two answers share memory")
		}
		clear(c[:cap(c)])
		tells(t, r, 0, r.End(), 200, 3*size-200)
		flush(t, r)
	}
	tells(t, open(t, d, 1, 4, 0), 0, 200, 200, 3*size-200)
	q := open(t, d, 1, 4, 0)
	write(t, d, 1, noughts())
	tells(t, q, 0, 200, 200, 3*size-200)
}
