package file_test

import (
	"bytes"
	"math"
	"testing"

	"palimpsest/api"
	"palimpsest/dev"
	"palimpsest/file"
)

const (
	sector = 128
	whole  = 512
	ahead  = 5  // sectors of the journal: its head, and four
	steps  = 14 // Writes and Syncs of a page's write
	mends  = 7  // those of an Open that goes on with one
)

func device(t *testing.T, n int) *dev.Dev {
	t.Helper()
	d, e := dev.New(n)
	if e != api.OK {
		t.Fatal(e)
	}
	return d
}

func open(t *testing.T, d *dev.Dev, from, pages int) *file.File {
	t.Helper()
	f, e := file.Open(d, from, pages)
	if e != api.OK || f == nil {
		t.Fatalf("Open(d, %d, %d) = %v, %v", from, pages, f, e)
	}
	return f
}

func want(t *testing.T, what string, got, want any) {
	t.Helper()
	if got != want {
		t.Errorf("%s: got %v, want %v", what, got, want)
	}
}

// bytesOf makes a page of which no two sectors, and no two versions, are the same.
func bytesOf(version int) []byte {
	b := make([]byte, whole)
	for i := range b {
		b[i] = byte(version*31 + i*7 + i/sector*3 + 1)
	}
	return b
}

// holds wants the page to be those bytes.
func holds(t *testing.T, f *file.File, p int, b []byte) {
	t.Helper()
	got, e := f.Read(p)
	if e != api.OK || !bytes.Equal(got, b) {
		t.Fatalf("Read(%d) = %v, %v; want %v", p, firsts(got), e, firsts(b))
	}
}

// firsts tells the first byte of each sector, which is enough to see what it is.
func firsts(b []byte) []byte {
	var all []byte
	for i := 0; i < len(b); i += sector {
		all = append(all, b[i])
	}
	return all
}

// image tells all of a device's sectors.
func image(t *testing.T, d *dev.Dev) []byte {
	t.Helper()
	var all []byte
	for i := range d.Size() {
		b, e := d.Read(i)
		if e != api.OK {
			t.Fatal(i, e)
		}
		all = append(all, b...)
	}
	return all
}

// lasting tells what a crash leaves of the device's sectors that keeps nothing.
func lasting(t *testing.T, d *dev.Dev) []byte {
	t.Helper()
	c := d.Copy()
	c.Crash(nil)
	return image(t, c)
}

// newest tells what a crash leaves of the device's sectors that keeps all.
func newest(t *testing.T, d *dev.Dev) []byte {
	t.Helper()
	c := d.Copy()
	keep := make([]bool, c.Pending())
	for i := range keep {
		keep[i] = true
	}
	c.Crash(keep)
	return image(t, c)
}

// head makes a head of that number.
func head(v uint64) []byte {
	b := make([]byte, sector)
	for i := range 8 {
		b[i] = byte(v >> (56 - 8*i))
	}
	return b
}

func put(t *testing.T, d *dev.Dev, at int, b []byte) {
	t.Helper()
	for i := 0; i < len(b); i += sector {
		if e := d.Write(at+i/sector, b[i:i+sector]); e != api.OK {
			t.Fatal(at, e)
		}
	}
}

// strange makes a device on which every sector is something, and the head at from is noughts.
func strange(t *testing.T, n, from int) *dev.Dev {
	t.Helper()
	d := device(t, n)
	for i := range n {
		put(t, d, i, bytes.Repeat([]byte{byte(0x80 + i%100)}, sector))
	}
	put(t, d, from, make([]byte, sector))
	if e := d.Sync(); e != api.OK {
		t.Fatal(e)
	}
	return d
}

// kill lets the device die outside of any call of the file's.
func kill(d *dev.Dev) {
	d.Fuse(0)
	d.Sync()
}

func TestExamples(t *testing.T) { // 4.2, 4.3
	f := open(t, device(t, 20), 2, 3)
	holds(t, f, 2, make([]byte, whole))
	want(t, "Write(3, b)", f.Write(3, bytesOf(1)), api.ErrArg)
	want(t, "Write(0, a)", f.Write(0, bytesOf(2)), api.OK)
	holds(t, f, 0, bytesOf(2))
}

func TestOpenBounds(t *testing.T) { // 4.2
	tests := []struct{ size, from, pages int }{
		{20, -1, 1}, {20, math.MinInt, 1}, {20, math.MinInt, math.MinInt},
		{20, 0, 0}, {20, 0, -1}, {20, 0, math.MinInt}, {20, 0, math.MaxInt},
		{20, 0, 4}, {20, 4, 3}, {20, 8, 2}, {20, 12, 1}, {20, 15, 1}, {20, 19, 1}, {20, 20, 1}, {20, 21, 1},
		{20, math.MaxInt, 1}, {20, math.MaxInt, math.MaxInt}, {20, math.MaxInt - 4, 1},
		{1, math.MaxInt, 1}, {1, math.MaxInt, math.MaxInt}, {1, 0, 1}, {5, 0, 1}, {8, 0, 1}, {8, 0, 0},
		{20, 0, 1 << 62}, {20, 0, 1<<62 + 1}, {20, 0, 1<<61 + 3}, {20, 1 << 62, 1}, {20, 1 << 62, 1 << 60},
		{api.MaxSectors, 0, 2047}, {api.MaxSectors, 4, 2046}, {api.MaxSectors, 0, api.MaxSectors},
	}
	for _, x := range tests {
		d := device(t, x.size)
		if f, e := file.Open(d, x.from, x.pages); f != nil || e != api.ErrArg {
			t.Errorf("%+v: %v, %v", x, f, e)
		}
		want(t, "Calls", d.Calls(), 0)
		kill(d)
		if f, e := file.Open(d, x.from, x.pages); f != nil || e != api.ErrArg {
			t.Errorf("%+v on a dead device: %v, %v", x, f, e)
		}
	}
	for _, from := range []int{math.MinInt, -1, 0, 1, math.MaxInt} {
		for _, pages := range []int{math.MinInt, 0, 1, math.MaxInt} {
			if f, e := file.Open(nil, from, pages); f != nil || e != api.ErrArg {
				t.Errorf("Open(nil, %d, %d) = %v, %v", from, pages, f, e)
			}
		}
	}
}

func TestOpenFits(t *testing.T) { // 4.1, 4.2
	tests := []struct{ size, from, pages int }{
		{9, 0, 1}, {10, 1, 1}, {20, 0, 3}, {20, 3, 3}, {20, 11, 1}, {api.MaxSectors, 3, 2046}, {api.MaxSectors, api.MaxSectors - 9, 1},
	}
	for _, x := range tests {
		d := strange(t, x.size, x.from)
		was := image(t, d)
		f := open(t, d, x.from, x.pages)
		want(t, "Pages", f.Pages(), x.pages)
		want(t, "Pending", d.Pending(), 0)
		if !bytes.Equal(image(t, d), was) {
			t.Fatalf("%+v: Open wrote something", x)
		}
		for _, p := range []int{0, x.pages - 1} {
			at := (x.from + ahead + 4*p) * sector
			holds(t, f, p, was[at:at+whole])
		}
		for _, p := range []int{0, x.pages - 1} {
			want(t, "Write", f.Write(p, bytesOf(p)), api.OK)
			holds(t, f, p, bytesOf(p))
		}
		want(t, "Write behind the last", f.Write(x.pages, bytesOf(1)), api.ErrArg)
	}
}

func TestOpenOfADeadDevice(t *testing.T) { // 4.2
	d := device(t, 20)
	kill(d)
	if f, e := file.Open(d, 2, 3); f != nil || e != api.ErrDead {
		t.Errorf("Open = %v, %v", f, e)
	}
	d.Crash(nil)
	d.Fuse(0)
	if f, e := file.Open(d, 2, 3); f == nil || e != api.OK {
		t.Errorf("Open, with nothing to write, on a burnt fuse = %v, %v", f, e)
	}
}

// script is what a page's write does on the device: the sectors that are written, and where it syncs.
func script(from, p int, b []byte) []func(now []byte) bool {
	var all []func(now []byte) bool
	lay := func(at int, b []byte) {
		for i := 0; i < len(b); i += sector {
			all = append(all, func(now []byte) bool {
				copy(now[at*sector+i:], b[i:i+sector])
				return false
			})
		}
		all = append(all, func([]byte) bool { return true })
	}
	lay(from+1, b)
	lay(from, head(uint64(p)+1))
	lay(from+ahead+4*p, b)
	lay(from, make([]byte, sector))
	return all
}

// follow lets the device fail at each step of call in turn, and wants of it just what the steps ahead make.
func follow(t *testing.T, d *dev.Dev, script []func([]byte) bool, call func(*dev.Dev) api.Errno) {
	t.Helper()
	for fuse := range len(script) + 1 {
		c := d.Copy()
		c.Fuse(fuse)
		e := call(c)
		want(t, "Dead", c.Dead(), fuse < len(script))
		want(t, "the answer", e != api.OK, fuse < len(script))
		synced, now := image(t, d), image(t, d)
		for _, do := range script[:fuse] {
			if do(now) {
				copy(synced, now)
			}
		}
		if !bytes.Equal(lasting(t, c), synced) || !bytes.Equal(newest(t, c), now) {
			t.Fatalf("the device is not what it is behind %d steps", fuse)
		}
	}
}

func TestStepsOfAWrite(t *testing.T) { // 4.1, 4.3
	for _, x := range []struct{ size, from, p, pages int }{
		{12, 0, 0, 1}, {20, 2, 0, 3}, {20, 2, 2, 3}, {1200, 7, 254, 290}, {1200, 7, 255, 290}, {1200, 7, 258, 290},
	} {
		s := script(x.from, x.p, bytesOf(4))
		want(t, "steps", len(s), steps)
		follow(t, strange(t, x.size, x.from), s, func(c *dev.Dev) api.Errno {
			return open(t, c, x.from, x.pages).Write(x.p, bytesOf(4))
		})
	}
}

func TestStepsOfAnOpen(t *testing.T) { // 4.1, 4.2
	for _, x := range []struct{ size, from, p, pages int }{
		{12, 0, 0, 1}, {20, 2, 0, 3}, {20, 2, 2, 3}, {1200, 7, 254, 290}, {1200, 7, 255, 290}, {1200, 7, 256, 290}, {1200, 7, 289, 290},
	} {
		d := strange(t, x.size, x.from)
		put(t, d, x.from, head(uint64(x.p)+1))
		put(t, d, x.from+1, bytesOf(5))
		d.Sync()
		s := script(x.from, x.p, bytesOf(5))[steps-mends:]
		follow(t, d, s, func(c *dev.Dev) api.Errno {
			f, e := file.Open(c, x.from, x.pages)
			if f != nil != (e == api.OK) {
				t.Errorf("Open = %v, %v", f, e)
			}
			return e
		})
		f := open(t, d, x.from, x.pages)
		holds(t, f, x.p, bytesOf(5))
		want(t, "Write", f.Write(x.p, bytesOf(6)), api.OK)
		d.Crash(nil)
		holds(t, open(t, d, x.from, x.pages), x.p, bytesOf(6))
	}
}

func TestHeadsThatNameNoPage(t *testing.T) { // 4.1, 4.2
	for _, v := range []uint64{0, 4, 5, 256, 1 << 16, 1<<32 + 1, 1<<56 | 2, 1<<63 | 1, 1 << 63, math.MaxUint64, math.MaxUint64 - 1} {
		d := strange(t, 20, 2)
		put(t, d, 2, head(v))
		d.Sync()
		was := image(t, d)
		d.Fuse(0)
		f := open(t, d, 2, 3)
		d.Fuse(-1)
		if !bytes.Equal(image(t, d), was) || d.Pending() != 0 {
			t.Fatalf("head %x: Open wrote something", v)
		}
		for p := range 3 {
			at := (2 + ahead + 4*p) * sector
			holds(t, f, p, was[at:at+whole])
		}
		want(t, "Write", f.Write(1, bytesOf(1)), api.OK)
		holds(t, open(t, d, 2, 3), 1, bytesOf(1))
		if !bytes.Equal(image(t, d)[2*sector:3*sector], make([]byte, sector)) {
			t.Fatalf("head %x: it is not noughts behind a Write", v)
		}
	}
}

func TestHeadNamesAPageOfMore(t *testing.T) { // 4.2
	d := strange(t, 24, 2)
	put(t, d, 1, head(1))
	put(t, d, 2, head(4))
	put(t, d, 3, bytesOf(9))
	open(t, d, 2, 3)
	holds(t, open(t, d, 2, 4), 3, bytesOf(9))
}

func TestReadWrong(t *testing.T) { // 4.3
	d := strange(t, 20, 2)
	f := open(t, d, 2, 3)
	for range 2 {
		for _, p := range []int{math.MinInt, -1, 3, 4, 1 << 62, 1 << 61, math.MaxInt} {
			calls := d.Calls()
			if b, e := f.Read(p); b != nil || e != api.ErrArg {
				t.Errorf("Read(%d) = %v, %v", p, b, e)
			}
			want(t, "Calls", d.Calls(), calls)
		}
		kill(d)
	}
	for p := range 3 {
		if b, e := f.Read(p); b != nil || e != api.ErrDead {
			t.Errorf("Read(%d) = %v, %v", p, b, e)
		}
	}
}

func TestWriteWrong(t *testing.T) { // 4.3
	d := strange(t, 20, 2)
	f := open(t, d, 2, 3)
	was, calls := image(t, d), 0
	for range 2 {
		calls = d.Calls()
		for _, p := range []int{math.MinInt, -1, 3, 4, 1 << 62, 1 << 61, math.MaxInt} {
			want(t, "Write of no page", f.Write(p, bytesOf(1)), api.ErrArg)
			want(t, "Write of no page", f.Write(p, nil), api.ErrArg)
		}
		for _, n := range []int{0, 1, 128, 504, 511, 513, 1024} {
			want(t, "Write of a wrong length", f.Write(1, make([]byte, n)), api.ErrArg)
		}
		want(t, "Write of nil", f.Write(1, nil), api.ErrArg)
		want(t, "Calls", d.Calls(), calls)
		kill(d)
	}
	d.Crash(nil)
	if !bytes.Equal(image(t, d), was) {
		t.Fatal("a wrong Write changed something")
	}
	want(t, "Write behind wrong ones", f.Write(1, bytesOf(1)), api.OK)
	holds(t, f, 1, bytesOf(1))
}

func TestDeadBehindAFailure(t *testing.T) { // 4.3
	for fuse := range steps {
		d := strange(t, 20, 2)
		f := open(t, d, 2, 3)
		d.Fuse(fuse)
		want(t, "Write", f.Write(1, bytesOf(1)), api.ErrDead)
		for range 2 {
			want(t, "Pages", f.Pages(), 3)
			want(t, "Write behind a failure", f.Write(0, bytesOf(2)), api.ErrDead)
			want(t, "Write of no page", f.Write(3, bytesOf(2)), api.ErrDead)
			want(t, "Write of a wrong length", f.Write(0, nil), api.ErrDead)
			_, e := f.Read(3)
			want(t, "Read of no page", e, api.ErrArg)
			d.Crash(nil)
			want(t, "Pending", d.Pending(), 0)
		}
		f = open(t, d, 2, 3)
		want(t, "Write behind an Open", f.Write(0, bytesOf(2)), api.OK)
		holds(t, f, 0, bytesOf(2))
	}
}

func TestReadOfADeadDeviceEndsNoWrites(t *testing.T) { // 4.3
	d := strange(t, 20, 2)
	f := open(t, d, 2, 3)
	kill(d)
	_, e := f.Read(0)
	want(t, "Read", e, api.ErrDead)
	d.Crash(nil)
	want(t, "Write", f.Write(0, bytesOf(3)), api.OK)
	holds(t, f, 0, bytesOf(3))
}

func TestOthersStay(t *testing.T) { // 4.1, 4.4
	d := strange(t, 30, 2)
	was := image(t, d)
	f := open(t, d, 2, 4)
	for i, p := range []int{1, 3, 1} {
		want(t, "Write", f.Write(p, bytesOf(i+1)), api.OK)
	}
	copy(was[3*sector:], bytesOf(3))
	copy(was[(7+4)*sector:], bytesOf(3))
	copy(was[(7+12)*sector:], bytesOf(2))
	if !bytes.Equal(image(t, d), was) || !bytes.Equal(lasting(t, d), was) {
		t.Fatal("more is written than the page, the journal and its head")
	}
}

func TestSideBySide(t *testing.T) { // 4.1
	d := device(t, 2*17)
	low, high := open(t, d, 0, 3), open(t, d, 17, 3)
	for p := range 3 {
		want(t, "Write", low.Write(p, bytesOf(p)), api.OK)
		want(t, "Write", high.Write(p, bytesOf(p+10)), api.OK)
	}
	d.Crash(nil)
	low, high = open(t, d, 0, 3), open(t, d, 17, 3)
	for p := range 3 {
		holds(t, low, p, bytesOf(p))
		holds(t, high, p, bytesOf(p+10))
	}
}

func smear(b []byte) {
	b = b[:cap(b)]
	for i := range b {
		b[i] = 0xEE
	}
}

func TestHandedInIsCopied(t *testing.T) { // 4.5
	for fuse := range steps + 1 {
		d := device(t, 20)
		f := open(t, d, 2, 3)
		room := append(bytesOf(7), bytesOf(8)...)
		d.Fuse(fuse)
		e := f.Write(1, room[:whole])
		if !bytes.Equal(room, append(bytesOf(7), bytesOf(8)...)) {
			t.Fatal("Write changed what was handed in")
		}
		smear(room)
		d.Crash([]bool{true, true, true, true})
		f = open(t, d, 2, 3)
		b, _ := f.Read(1)
		if bytes.Contains(b, []byte{0xEE, 0xEE, 0xEE}) || e == api.OK && !bytes.Equal(b, bytesOf(7)) {
			t.Fatalf("fuse %d: what was handed in is kept: %v", fuse, b)
		}
	}
}

func TestToldIsNew(t *testing.T) { // 4.5
	d := device(t, 20)
	f := open(t, d, 2, 3)
	for p := range 3 {
		f.Write(p, bytesOf(p))
	}
	a, _ := f.Read(1)
	b, _ := f.Read(1)
	smear(a)
	if !bytes.Equal(b, bytesOf(1)) {
		t.Fatal("two answers share memory")
	}
	for p := range 3 {
		holds(t, f, p, bytesOf(p))
	}
}
