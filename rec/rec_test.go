package rec_test

import (
	"bytes"
	"encoding/hex"
	"math"
	"math/rand"
	"reflect"
	"runtime"
	"strings"
	"testing"

	"palimpsest/api"
	"palimpsest/rec"
)

const greatest = 1 << 62

// sample is a record of which every field has something of its own; its two lists of structs have unlike lengths.
func sample() api.Rec {
	return api.Rec{
		Kind: 1, Txn: 2, Prev: 3, Next: 4, Page: 5, Off: 0x0102030405060708,
		Before: []byte{0xA1, 0xA2}, After: []byte{0xB1, 0xB2, 0xB3},
		Txns:  []api.Txn{{ID: 0x11, Last: 0x12, State: 0x13}, {ID: 0x14, Last: 0x15, State: 0x16}},
		Dirty: []api.Dirty{{Page: 0x21, LSN: 0x22}}, Count: 0x31,
	}
}

// spelt is sample as the chapter spells it, a field a line.
const spelt = `
000000000000009D
0000000000000001
0000000000000002
0000000000000003
0000000000000004
0000000000000005
0102030405060708
0000000000000002 A1A2
0000000000000003 B1B2B3
0000000000000002
0000000000000011 0000000000000012 0000000000000013
0000000000000014 0000000000000015 0000000000000016
0000000000000001
0000000000000021 0000000000000022
0000000000000031
`

// Where sample's counts stand in its bytes.
const (
	atBefore = 56
	atAfter  = 66
	atTxns   = 77
	atDirty  = 133
)

func spell(t *testing.T, text string) []byte {
	t.Helper()
	b, e := hex.DecodeString(strings.Join(strings.Fields(text), ""))
	if e != nil {
		t.Fatal(e)
	}
	return b
}

// numbers points at each number of a record that is no count of a list.
func numbers(r *api.Rec) []*int {
	l := []*int{&r.Kind, &r.Txn, &r.Prev, &r.Next, &r.Page, &r.Off, &r.Count}
	for i := range r.Txns {
		l = append(l, &r.Txns[i].ID, &r.Txns[i].Last, &r.Txns[i].State)
	}
	for i := range r.Dirty {
		l = append(l, &r.Dirty[i].Page, &r.Dirty[i].LSN)
	}
	return l
}

// places tells where in sample's bytes the numbers lie, in the order of numbers.
func places() []int {
	return []int{8, 16, 24, 32, 40, 48, 157, 85, 93, 101, 109, 117, 125, 141, 149}
}

// put lays v at a place, the highest byte first.
func put(b []byte, at int, v uint64) []byte {
	c := bytes.Clone(b)
	for i := range 8 {
		c[at+i] = byte(v >> (56 - 8*i))
	}
	return c
}

func get(b []byte, at int) uint64 {
	var v uint64
	for _, c := range b[at : at+8] {
		v = v*256 + uint64(c)
	}
	return v
}

// reads wants b to begin with r, of so many bytes.
func reads(t *testing.T, what string, b []byte, r api.Rec, size int) {
	t.Helper()
	x, n, ok := rec.Decode(b)
	if !ok || n != size || !reflect.DeepEqual(x, r) {
		t.Fatalf("%s: Decode = %+v, %d, %v; want %+v, %d", what, x, n, ok, r, size)
	}
}

// refuses wants b to begin with no record, and nothing told beside that.
func refuses(t *testing.T, what string, b []byte) {
	t.Helper()
	x, n, ok := rec.Decode(b)
	if ok || n != 0 || !reflect.DeepEqual(x, api.Rec{}) {
		t.Fatalf("%s: Decode = %+v, %d, %v; want nothing", what, x, n, ok)
	}
}

// random makes a record with numbers from 0 to 2^62, of few bytes as often as of many.
func random(g *rand.Rand) api.Rec {
	var r api.Rec
	r.Before, r.After = text(g), text(g)
	for range g.Intn(4) {
		r.Txns = append(r.Txns, api.Txn{})
	}
	for range g.Intn(4) {
		r.Dirty = append(r.Dirty, api.Dirty{})
	}
	for _, p := range numbers(&r) {
		if *p = g.Intn(greatest+1) >> g.Intn(63); g.Intn(9) == 0 {
			*p = greatest
		}
	}
	return r
}

func text(g *rand.Rand) []byte {
	k := g.Intn(40)
	if k < 10 {
		return nil
	}
	b := make([]byte, k-9)
	g.Read(b)
	return b
}

func TestExamples(t *testing.T) { // the chapter's table
	if n := rec.Size(api.Rec{}); n != 96 {
		t.Errorf("Size of a bare record: %d", n)
	}
	if n := rec.Size(api.Rec{Kind: 7, Txn: 6, Prev: 5, Next: 4, Page: 3, Off: 2, Count: 1}); n != 96 {
		t.Errorf("Size of a record of numbers: %d", n)
	}
	refuses(t, "seven bytes", make([]byte, 7))
	refuses(t, "seven bytes of a record", rec.Encode(api.Rec{})[:7])
}

func TestLayout(t *testing.T) { // 3.1
	b := spell(t, spelt)
	if got := rec.Encode(sample()); !bytes.Equal(got, b) {
		t.Errorf("Encode: got %X, want %X", got, b)
	}
	if n := rec.Size(sample()); n != len(b) || n != 165 {
		t.Errorf("Size: %d of %d bytes", n, len(b))
	}
	reads(t, "what is spelt", b, sample(), len(b))
}

func TestBareLayout(t *testing.T) { // 3.1
	b := make([]byte, 96)
	b[7] = 88
	if got := rec.Encode(api.Rec{}); !bytes.Equal(got, b) {
		t.Errorf("Encode: %X", got)
	}
	reads(t, "a bare record", b, api.Rec{}, 96)
}

func TestEmptyListsAreNil(t *testing.T) { // 3.1
	empty := api.Rec{Before: []byte{}, After: []byte{}, Txns: []api.Txn{}, Dirty: []api.Dirty{}}
	if !bytes.Equal(rec.Encode(empty), rec.Encode(api.Rec{})) || rec.Size(empty) != 96 {
		t.Errorf("Encode: %X, Size %d", rec.Encode(empty), rec.Size(empty))
	}
}

func TestSize(t *testing.T) { // 3.1
	for _, x := range []struct {
		r    api.Rec
		size int
	}{
		{api.Rec{Before: make([]byte, 1)}, 97},
		{api.Rec{After: make([]byte, 504)}, 600},
		{api.Rec{Before: make([]byte, 100), After: make([]byte, 1000)}, 1196},
		{api.Rec{Txns: make([]api.Txn, 3)}, 168},
		{api.Rec{Dirty: make([]api.Dirty, 3)}, 144},
		{api.Rec{Before: make([]byte, 70000), Txns: make([]api.Txn, 300), Dirty: make([]api.Dirty, 300)}, 96 + 70000 + 7200 + 4800},
		{api.Rec{Kind: -1, Count: math.MinInt}, 96},
		{api.Rec{Kind: math.MaxInt}, 96},
	} {
		b := rec.Encode(x.r)
		if rec.Size(x.r) != x.size || len(b) != x.size || get(b, 0) != uint64(x.size-8) {
			t.Errorf("Size %d, %d bytes that say %d; want %d", rec.Size(x.r), len(b), get(b, 0), x.size)
		}
	}
}

func TestNumbersAreInTheirPlaces(t *testing.T) { // 3.1
	for i, at := range places() {
		for _, v := range []int{0, 1, 255, 256, 0x0123456789ABCDEF, greatest - 1, greatest} {
			r := sample()
			*numbers(&r)[i] = v
			b := put(spell(t, spelt), at, uint64(v))
			if got := rec.Encode(r); !bytes.Equal(got, b) {
				t.Fatalf("number %d as %d: Encode = %X, want %X", i, v, got, b)
			}
			reads(t, "a number in its bounds", b, r, len(b))
		}
	}
}

func TestNumbersBelowNought(t *testing.T) { // 3.1
	for i, at := range places() {
		for _, v := range []int{-1, -2, -256, math.MinInt32, math.MinInt + 1, math.MinInt} {
			r := sample()
			*numbers(&r)[i] = v
			b := put(spell(t, spelt), at, 0)
			if got := rec.Encode(r); !bytes.Equal(got, b) {
				t.Fatalf("number %d as %d: Encode = %X, want %X", i, v, got, b)
			}
			if *numbers(&r)[i] != v {
				t.Fatalf("number %d as %d: Encode changed what it was handed", i, v)
			}
			*numbers(&r)[i] = 0
			reads(t, "one below 0", b, r, len(b))
		}
	}
}

func TestNumbersAbove(t *testing.T) { // 3.1
	for i, at := range places() {
		for _, v := range []int{greatest + 1, greatest + 256, greatest + greatest/2, math.MaxInt} {
			r := sample()
			*numbers(&r)[i] = v
			b := rec.Encode(r)
			if !bytes.Equal(b, put(spell(t, spelt), at, uint64(v))) {
				t.Fatalf("number %d as %d: Encode = %X", i, v, b)
			}
			refuses(t, "a number above 2^62", b)
		}
		for _, v := range []uint64{1 << 63, 1<<63 + 1, 1<<63 + 5, 3 << 62, math.MaxUint64} {
			refuses(t, "a number above 2^63", put(spell(t, spelt), at, v))
		}
	}
}

func TestCutShort(t *testing.T) { // 3.1
	for _, r := range []api.Rec{{}, sample(), {Before: []byte("b")}, {After: []byte("a")}, {Txns: make([]api.Txn, 1)}, {Dirty: make([]api.Dirty, 1)}} {
		b := rec.Encode(r)
		for i := range b {
			refuses(t, "bytes cut short", b[:i])
			refuses(t, "bytes cut short, others behind them out of reach", b[:i:i])
			if i >= 8 {
				refuses(t, "bytes cut short that say so", put(b, 0, uint64(i-8))[:i])
			}
		}
	}
	refuses(t, "nil", nil)
	refuses(t, "no bytes", []byte{})
}

// lies are what a length or count may say falsely; times 8, 16 and 24 some of them are small again, or below 0.
func lies() []uint64 {
	return []uint64{
		0, 1, 2, 3, 4, 5, 6, 7, 8, 9, 15, 16, 17, 23, 24, 25, 48, 64, 88, 96, 149, 156, 157, 158, 165, 173, 256, 65536,
		1<<31 - 1, 1 << 31, 1<<32 + 1, 1<<32 + 2, 1<<32 + 157, 1 << 58, 1 << 59, 1 << 60, 1<<60 + 1, 1<<60 + 2, 1 << 61, 1<<61 + 1, 1<<61 + 2,
		1<<62 - 1, 1 << 62, 1<<62 + 2, 1<<63 - 1, 1 << 63, 1<<63 + 2, 1<<64 - 8, 1<<64 - 1,
	}
}

func TestWrongLengths(t *testing.T) { // 3.1
	b := spell(t, spelt)
	for _, behind := range []int{0, 1, 8, 200, 70000} {
		long := append(bytes.Clone(b), make([]byte, behind)...)
		for _, v := range lies() {
			if v == get(b, 0) {
				continue
			}
			refuses(t, "a wrong length", put(long, 0, v))
		}
	}
}

func TestWrongCounts(t *testing.T) { // 3.1
	b := spell(t, spelt)
	for _, at := range []int{atBefore, atAfter, atTxns, atDirty} {
		for _, v := range lies() {
			if v == get(b, at) {
				continue
			}
			refuses(t, "a wrong count", put(b, at, v))
			refuses(t, "a wrong count, much behind", append(put(b, at, v), make([]byte, 70000)...))
		}
	}
}

// TestCountsOfBareRecords: without items there is little behind a count, and nothing that a false one could take in its place.
func TestCountsOfBareRecords(t *testing.T) { // 3.1
	b := rec.Encode(api.Rec{})
	for _, at := range []int{56, 64, 72, 80} {
		for _, v := range lies() {
			if v == 0 {
				continue
			}
			refuses(t, "a wrong count", put(b, at, v))
			refuses(t, "a wrong count, much behind", append(put(b, at, v), make([]byte, 70000)...))
		}
	}
}

// TestRoomWithin: a record's length may not take in more than its fields, though what is there would be noughts, or another record.
func TestRoomWithin(t *testing.T) { // 3.1
	for _, r := range []api.Rec{{}, sample()} {
		b := rec.Encode(r)
		for _, more := range [][]byte{{0}, make([]byte, 8), make([]byte, 96), b} {
			long := append(bytes.Clone(b), more...)
			refuses(t, "room within", put(long, 0, uint64(len(long)-8)))
			reads(t, "the same behind", long, r, len(b))
		}
	}
}

func TestKind(t *testing.T) { // 3.2
	names := []string{"", "begin", "update", "clr", "commit", "abort", "end", "check"}
	for n, name := range names {
		if rec.Kind(n) != name {
			t.Errorf("Kind(%d) = %q, want %q", n, rec.Kind(n), name)
		}
	}
	kinds := []int{api.RBegin, api.RUpdate, api.RClr, api.RCommit, api.RAbort, api.REnd, api.RCheck}
	for i, n := range kinds {
		if n != i+1 || rec.Kind(n) != names[i+1] {
			t.Errorf("Kind(%d) = %q, want %q", n, rec.Kind(n), names[i+1])
		}
	}
	for _, n := range []int{math.MinInt, -255, -7, -1, 8, 9, 257, 1<<32 + 1, math.MaxInt} {
		if rec.Kind(n) != "" {
			t.Errorf("Kind(%d) = %q", n, rec.Kind(n))
		}
	}
}

func TestThereAndBack(t *testing.T) { // 3.3
	g := rand.New(rand.NewSource(3))
	junk := make([]byte, 300)
	for range 3000 {
		r := random(g)
		b := rec.Encode(r)
		if len(b) != rec.Size(r) {
			t.Fatalf("Size %d of %d bytes", rec.Size(r), len(b))
		}
		reads(t, "alone", b, r, len(b))
		g.Read(junk)
		for _, behind := range [][]byte{{0}, {0xFF}, make([]byte, 300), b, b[:len(b)/2], junk[:g.Intn(300)]} {
			reads(t, "with something behind", append(bytes.Clone(b), behind...), r, len(b))
		}
	}
}

func TestOneBehindTheOther(t *testing.T) { // 3.3
	g := rand.New(rand.NewSource(4))
	var l []api.Rec
	var b []byte
	for range 200 {
		r := random(g)
		l = append(l, r)
		b = append(b, rec.Encode(r)...)
	}
	for i, r := range l {
		x, n, ok := rec.Decode(b)
		if !ok || n != rec.Size(r) || !reflect.DeepEqual(x, r) {
			t.Fatalf("record %d: %+v, %d, %v", i, x, n, ok)
		}
		b = b[n:]
	}
	if len(b) != 0 {
		t.Errorf("%d bytes are left", len(b))
	}
}

// TestNoneBeginsAnother: also of records whose bytes look like records, and of such as Decode refuses.
func TestNoneBeginsAnother(t *testing.T) { // 3.3
	g := rand.New(rand.NewSource(5))
	l := []api.Rec{{}, sample(), {Count: math.MaxInt}, {Kind: -1, Txn: 1}}
	for range 150 {
		l = append(l, random(g))
	}
	for _, r := range l[:20] {
		b := rec.Encode(r)
		l = append(l, api.Rec{Before: b}, api.Rec{After: b}, api.Rec{Before: b, After: b}, api.Rec{Before: b[8:]})
	}
	for i, r := range l {
		for j, x := range l {
			if i != j && bytes.HasPrefix(rec.Encode(x), rec.Encode(r)) {
				t.Fatalf("%+v begins %+v", r, x)
			}
		}
	}
}

// TestWhatIsReadIsWritten: of bytes that are a little wrong Decode tells a record only if they begin with just that one's Encode.
func TestWhatIsReadIsWritten(t *testing.T) { // 3.1, 3.3
	g := rand.New(rand.NewSource(6))
	told := 0
	for range 30000 {
		b := rec.Encode(random(g))
		for range 1 + g.Intn(3) {
			b[g.Intn(len(b))] ^= byte(1 << g.Intn(8))
		}
		b = append(b, make([]byte, g.Intn(40))...)
		r, n, ok := rec.Decode(b)
		if !ok {
			refuses(t, "a little wrong", b)
			continue
		}
		told++
		if n != rec.Size(r) || !bytes.HasPrefix(b, rec.Encode(r)) || len(rec.Encode(r)) != n {
			t.Fatalf("%X: %+v, %d", b, r, n)
		}
	}
	if told < 1000 || told > 29000 {
		t.Errorf("%d of 30000 were told", told)
	}
}

// TestNoCallPanics asks for whatever bytes come; a panic fails it.
func TestNoCallPanics(t *testing.T) { // 3.4
	g := rand.New(rand.NewSource(7))
	for range 20000 {
		b := make([]byte, g.Intn(250))
		g.Read(b)
		for i := 0; i < len(b); i++ {
			if i%8 != 7 && g.Intn(30) > 0 {
				b[i] = 0
			}
		}
		if g.Intn(2) == 0 && len(b) >= 8 {
			b = put(b, 0, uint64(len(b)-8))
		}
		rec.Decode(b)
	}
	rec.Encode(api.Rec{Kind: math.MinInt, Count: math.MaxInt, Txns: []api.Txn{{ID: math.MinInt, Last: -1, State: math.MaxInt}}})
}

// spare makes the same list with 64 more items of room behind it, filled by fill.
func spare[T any](l []T, fill T) []T {
	room := append([]T{}, l...)
	for range 64 {
		room = append(room, fill)
	}
	return room[:len(l)]
}

// smear writes over a list and the room behind it.
func smear[T any](l []T, v T) {
	l = l[:cap(l)]
	for i := range l {
		l[i] = v
	}
}

// roomy is sample with room behind each list.
func roomy() api.Rec {
	r := sample()
	r.Before, r.After = spare(r.Before, 0x77), spare(r.After, 0x77)
	r.Txns, r.Dirty = spare(r.Txns, api.Txn{ID: 7}), spare(r.Dirty, api.Dirty{Page: 7})
	return r
}

func TestHandedInIsNotChanged(t *testing.T) { // 3.4
	r, same := roomy(), roomy()
	b := rec.Encode(r)
	rec.Size(r)
	whole := func(r api.Rec) api.Rec {
		r.Before, r.After = r.Before[:cap(r.Before)], r.After[:cap(r.After)]
		r.Txns, r.Dirty = r.Txns[:cap(r.Txns)], r.Dirty[:cap(r.Dirty)]
		return r
	}
	if !reflect.DeepEqual(whole(r), whole(same)) {
		t.Error("Encode or Size changed what it was handed")
	}
	b = spare(b, 0x77)
	before := bytes.Clone(b[:cap(b)])
	rec.Decode(b)
	if !bytes.Equal(b[:cap(b)], before) {
		t.Error("Decode changed what it was handed")
	}
}

func TestToldIsNewMemory(t *testing.T) { // 3.4
	r := roomy()
	b, other := rec.Encode(r), rec.Encode(r)
	smear(b, 0xEE)
	if !reflect.DeepEqual(r, roomy()) || !bytes.Equal(other, spell(t, spelt)) {
		t.Error("Encode told memory of what it was handed, or of another answer")
	}
	smear(r.Before, 0xEE)
	smear(r.After, 0xEE)
	smear(r.Txns, api.Txn{ID: 9})
	smear(r.Dirty, api.Dirty{Page: 9})
	if !bytes.Equal(other, spell(t, spelt)) {
		t.Error("Encode kept what it was handed")
	}

	b = append(spell(t, spelt), make([]byte, 100)...)
	x, _, _ := rec.Decode(b)
	y, _, _ := rec.Decode(b)
	smear(b, 0xEE)
	if !reflect.DeepEqual(x, sample()) || !reflect.DeepEqual(y, sample()) {
		t.Error("Decode told memory of what it was handed")
	}
	smear(b, 0)
	for _, do := range []func(){
		func() { smear(x.Before, 0xEE); x.Before = sample().Before },
		func() { smear(x.After, 0xEE); x.After = sample().After },
		func() { smear(x.Txns, api.Txn{ID: 9}); x.Txns = sample().Txns },
		func() { smear(x.Dirty, api.Dirty{Page: 9}); x.Dirty = sample().Dirty },
	} {
		do()
		if !reflect.DeepEqual(x, sample()) || !reflect.DeepEqual(y, sample()) {
			t.Error("two lists share memory")
		}
	}
	if !bytes.Equal(b, make([]byte, len(b))) {
		t.Error("Decode told memory of what it was handed")
	}
}

// TestLiesMakeNoRoom: a count that lies is refused without room made for so many items.
func TestLiesMakeNoRoom(t *testing.T) { // 3.4
	b := spell(t, spelt)
	for _, at := range []int{0, atBefore, atAfter, atTxns, atDirty} {
		c := put(b, at, 1<<26)
		var before, behind runtime.MemStats
		runtime.ReadMemStats(&before)
		refuses(t, "a count that lies", c)
		runtime.ReadMemStats(&behind)
		if made := behind.TotalAlloc - before.TotalAlloc; made > 1<<20 {
			t.Errorf("at %d: room of %d bytes was made", at, made)
		}
	}
}
