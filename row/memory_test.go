package row_test

import (
	"bytes"
	"slices"
	"testing"
	"unsafe"

	"palimpsest/api"
	"palimpsest/row"
)

// lent tells a text that lies in bytes that can be changed behind a call.
func lent(b []byte) string {
	return unsafe.String(unsafe.SliceData(b), len(b))
}

// roomy gives a list spare room, filled so that a write there is seen.
func roomy[T any](l []T, fill T) []T {
	return append(slices.Clone(l), fill, fill, fill)[:len(l)]
}

// spoil writes over a list, and over its spare room.
func spoil[T any](l []T, fill T) {
	l = l[:cap(l)]
	for i := range l {
		l[i] = fill
	}
}

func whole[T any](l []T) []T { return l[:cap(l)] }

func roomyTable(x api.Table) api.Table {
	x.Cols = roomy(x.Cols, api.Col{Name: "spare", Type: 71})
	x.Indexes = roomy(x.Indexes, api.Index{Name: "spare", Col: 1})
	x.Roots = roomy(x.Roots, 73)
	return x
}

func wholeTable(x api.Table) api.Table {
	x.Cols, x.Indexes, x.Roots = slices.Clone(whole(x.Cols)), slices.Clone(whole(x.Indexes)), slices.Clone(whole(x.Roots))
	return x
}

func spoilTable(x api.Table) {
	spoil(x.Cols, api.Col{Name: "spoilt", Type: 81})
	spoil(x.Indexes, api.Index{Name: "spoilt", Col: 82})
	spoil(x.Roots, 83)
}

// TestRowsHandedIn: no call changes a row, nor the spare room behind it, whether it answers an error or not.
func TestRowsHandedIn(t *testing.T) { // DOC's rule 3, 17.5
	rows := full()
	for _, x := range pairs() {
		rows = append(rows, x.l)
	}
	rows = append(rows, of(api.Value{Type: api.TInt, Int: 1, Text: "unused", Bool: true}, kind(9)), of(long(500)))
	for _, l := range rows {
		handed, other := roomy(l, text("spare")), roomy(of(num(1), text("a")), text("spare"))
		was, wasOther := slices.Clone(whole(handed)), slices.Clone(whole(other))
		x := roomyTable(sample())
		row.Encode(handed)
		row.Check(x, handed)
		row.Compare(handed, other)
		row.Compare(other, handed)
		row.Text(handed)
		if !slices.Equal(whole(handed), was) || !slices.Equal(whole(other), wasOther) {
			t.Fatalf("a row is changed: %#v", handed)
		}
		if !same(wholeTable(x), wholeTable(roomyTable(sample()))) {
			t.Fatalf("a table is changed: %#v", x)
		}
	}
}

func TestBytesHandedIn(t *testing.T) { // DOC's rule 3, 17.5
	all := [][]byte{nil, {9}, row.Schema(sample()), row.Schema(sample())[:40], append(row.Schema(sample()), 0)}
	for _, l := range full() {
		b, _ := row.Encode(l)
		all = append(all, b)
	}
	for _, b := range all {
		handed := roomy(b, 0xEE)
		was := slices.Clone(whole(handed))
		row.Decode(handed)
		row.Table(handed)
		if !bytes.Equal(whole(handed), was) {
			t.Fatalf("bytes are changed: %X, were %X", handed, was)
		}
	}
}

func TestTablesHandedIn(t *testing.T) { // DOC's rule 3, 17.5
	for _, x := range some() {
		handed := roomyTable(x)
		was := wholeTable(handed)
		b := row.Schema(handed)
		row.Check(handed, of(num(1), long(41)))
		row.Check(handed, nil)
		spoil(b, 0xEE)
		if !same(wholeTable(handed), was) {
			t.Fatalf("a table is changed: %s", brief(handed))
		}
		isTable(t, row.Schema(handed), x)
	}
}

// TestSortHandedIn: Sort leaves the list of rows as it is, each row in it, and the spare room of both.
func TestSortHandedIn(t *testing.T) { // DOC's rule 3, 17.5
	spare := of(text("spare"))
	rows := [][]api.Value{of(num(3)), of(text("b")), nil, {}, of(num(1), null), of(num(3)), of(yes)}
	for i := range rows {
		rows[i] = roomy(rows[i], num(71))
	}
	handed := roomy(rows, spare)
	var was [][]api.Value
	for _, r := range whole(handed) {
		was = append(was, slices.Clone(whole(r)))
	}
	for range 2 {
		sorted := row.Sort(handed)
		for i, r := range whole(handed) {
			if !slices.Equal(whole(r), was[i]) || i < len(rows) && unsafe.SliceData(r) != unsafe.SliceData(rows[i]) {
				t.Fatalf("row %d is changed: %#v, was %#v", i, r, was[i])
			}
		}
		for _, r := range sorted {
			spoil(r, num(81))
		}
		spoil(sorted, of(num(82)))
	}
}

// overlaps tells whether two lists lie in one memory somewhere, spare room too.
func overlaps(a, b []api.Value) bool {
	a, b = whole(a), whole(b)
	if len(a) == 0 || len(b) == 0 {
		return false
	}
	first := func(l []api.Value) uintptr { return uintptr(unsafe.Pointer(unsafe.SliceData(l))) }
	behind := func(l []api.Value) uintptr { return first(l) + uintptr(len(l))*unsafe.Sizeof(l[0]) }
	return first(a) < behind(b) && first(b) < behind(a)
}

// TestSortedRowsAreNew: no row that is told lies in one memory with another one or with what was handed in, though one row was handed in many times, or all lay in one array.
func TestSortedRowsAreNew(t *testing.T) { // DOC's rule 3, 17.5
	array := of(num(4), num(3), num(2), num(1), null, text("a"))
	empty := make([]api.Value, 0, 4)
	handed := [][]api.Value{array[4:], array[:2], array[:2], array[2:4:4], array[1:3], empty, empty, array[:0], array}
	was := slices.Clone(array)
	first, second := row.Sort(handed), row.Sort(handed)
	want := row.Sort(handed)
	all := slices.Concat([][]api.Value{array, empty}, first, second)
	for i, a := range all {
		for _, b := range all[:i] {
			if overlaps(a, b) {
				t.Fatalf("%#v and %#v lie in one memory", a, b)
			}
		}
	}
	for i := range second {
		spoil(second[i], num(81))
	}
	spoil(second, of(num(82)))
	if !slices.Equal(array, was) || !alike(first, want) {
		t.Fatalf("what was told or handed in has changed: %#v, %#v", array, first)
	}
	spoil(array, num(83))
	spoil(handed, of(num(84)))
	if !alike(first, want) {
		t.Fatalf("what was told has changed: %#v", first)
	}
}

// TestTextsAreNew: what is told does not change with the bytes in which texts lay that were handed in; nor do these.
func TestTextsAreNew(t *testing.T) { // DOC's rule 3, 17.5
	first, second := []byte("it's one"), []byte("it's two")
	a, b := text(lent(first)), text(lent(second))
	unused := api.Value{Type: api.TInt, Int: 1, Text: lent(first)}
	x := api.Table{Name: lent(first), Cols: []api.Col{{Name: lent(second), Type: api.TText, Unique: true}}, Indexes: []api.Index{{Name: lent(first)}}}
	sorted := row.Sort([][]api.Value{of(b, a), of(unused), of(a)})
	one, both := row.Text(of(a)), row.Text(of(a, b))
	bytesOf, _ := row.Encode(of(a))
	schema := row.Schema(x)
	row.Check(x, of(a))
	row.Compare(of(a), of(b))
	if string(first) != "it's one" || string(second) != "it's two" {
		t.Fatalf("a text is changed: %q, %q", first, second)
	}
	spoil(first, '!')
	spoil(second, '!')
	if one != "'it''s one'" || both != "'it''s one', 'it''s two'" {
		t.Errorf("Text has changed: %q, %q", one, both)
	}
	unused.Text = "it's one"
	if !alike(sorted, [][]api.Value{of(unused), of(text("it's one")), of(text("it's two"), text("it's one"))}) {
		t.Errorf("Sort has changed: %#v", sorted)
	}
	decodes(t, bytesOf, of(text("it's one")))
	isTable(t, schema, api.Table{Name: "it's one", Cols: []api.Col{{Name: "it's two", Type: api.TText, Unique: true}}, Indexes: []api.Index{{Name: "it's one"}}})
}

// TestBytesAndListsAreNew: what is told can be written over, spare room too, and nothing else changes; nor does it change with what was handed in.
func TestBytesAndListsAreNew(t *testing.T) { // DOC's rule 3, 17.5
	for _, l := range full() {
		b, _ := row.Encode(l)
		other, _ := row.Encode(l)
		want := slices.Clone(b)
		spoil(other, 0xEE)
		decodes(t, b, l)
		told, _ := row.Decode(b)
		spoiled, _ := row.Decode(b)
		spoil(spoiled, num(81))
		if !bytes.Equal(b, want) || !slices.Equal(told, l) {
			t.Fatalf("what was told or handed in has changed: %X, %#v", b, told)
		}
		spoil(b, 0xDD)
		if !slices.Equal(told, l) {
			t.Fatalf("what was told has changed: %#v", told)
		}
	}
	for _, x := range some() {
		b := row.Schema(x)
		spoil(row.Schema(x), 0xEE)
		told, _ := row.Table(b)
		other, _ := row.Table(b)
		spoilTable(other)
		isTable(t, b, x)
		spoil(b, 0xDD)
		if !same(told, x) {
			t.Fatalf("what was told has changed: %s", brief(told))
		}
	}
}

// TestNothingIsKept: what was asked before makes no difference.
func TestNothingIsKept(t *testing.T) { // DOC's rule 3
	l := of(num(1), text("a"))
	x := under(mustBe, unique)
	for range 2 {
		encodes(t, l, spell(t, "01 8000000000000001 02 61 0000"))
		checks(t, x, api.OK, l...)
		spells(t, "1, 'a'", l...)
		l[1] = long(478)
		tooLong(t, l)
		checks(t, x, api.ErrRow, l...)
		l[0] = null
		checks(t, x, api.ErrNull, l...)
		spells(t, "NULL", l[0])
		x.Cols[0].NotNull, x.Cols[1].Unique = false, false
		checks(t, x, api.OK, null, long(476))
		isTable(t, row.Schema(x), x)
		l[0], l[1] = num(1), text("a")
		x.Cols[0].NotNull, x.Cols[1].Unique = true, true
		isTable(t, row.Schema(x), x)
	}
}
