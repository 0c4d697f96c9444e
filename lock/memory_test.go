package lock_test

import (
	"slices"
	"testing"
	"unsafe"

	"palimpsest/lock"
)

// over tells a name that lies in bytes that can be changed behind a call.
func over(b []byte) string {
	return unsafe.String(unsafe.SliceData(b), len(b))
}

// roomy gives a list spare room, filled so that a write there is seen.
func roomy(l []lock.Want) []lock.Want {
	return append(slices.Clone(l), lock.Want{Name: "spare", Mode: 77}, lock.Want{Name: "room", Mode: 78})[:len(l)]
}

// spoil writes over a list, and over its spare room.
func spoil[T any](l []T, fill T) {
	l = l[:cap(l)]
	for i := range l {
		l[i] = fill
	}
}

// TestHandedIn: no call changes a list that it is given, nor the spare room behind it, whether it is refused or not.
func TestHandedIn(t *testing.T) { // DOC's rule 3
	table := lock.New()
	taken(t, table, 9, "z", x)
	for _, l := range [][]lock.Want{
		nil, wants("b", s, "a", ix, "b", ix, "c", 0), wants("c", x, "a", 77, "a", is), wants("b", is, "z", is, "a", x), wants("a", -1),
	} {
		handed := roomy(l)
		was := slices.Clone(handed[:cap(handed)])
		table.Ask(1, handed)
		table.Take(1, handed)
		table.Take(2, handed)
		if !slices.Equal(handed[:cap(handed)], was) {
			t.Fatalf("the list is changed: %v, was %v", handed[:cap(handed)], was)
		}
	}
}

// TestNothingIsKept: what is changed behind a call, the list or a name's bytes, makes no difference.
func TestNothingIsKept(t *testing.T) { // DOC's rule 3
	table := lock.New()
	a, b, again := []byte("name a"), []byte("name b"), []byte("name b")
	l := roomy(wants(over(b), s, over(a), ix))
	if !table.Take(1, l) {
		t.Fatal("Take = false")
	}
	// The same name by other bytes, by the same transaction and by another.
	taken(t, table, 1, over(again), six)
	taken(t, table, 2, over(again), is)
	spoil(l, lock.Want{Name: "other", Mode: x})
	for _, bytes := range [][]byte{a, b, again} {
		spoil(bytes, '!')
	}
	holds(t, table, 1, "name a", ix, "name b", six)
	holds(t, table, 2, "name b", is)
	heldBy(t, table, "name a", 1)
	heldBy(t, table, "name b", 1, 2)
	heldBy(t, table, "other")
	table.Release(1)
	heldBy(t, table, "name b", 2)
	table.Release(2)
	heldBy(t, table, "name b")
	taken(t, table, 3, "name a", x, "name b", x)
}

// TestAnswersAreNew: what is told can be written over, spare room too, and what is told of it elsewhere stays.
func TestAnswersAreNew(t *testing.T) { // 14.4
	table := lock.New()
	for id := range 5 {
		taken(t, table, id, "db", is, "b", s, "a", is)
	}
	others := wants("db", x, "a", x)
	ask, held, holders := table.Ask(1, others), table.Held(1), table.Holders("db")
	asked, kept, were := slices.Clone(ask), slices.Clone(held), slices.Clone(holders)
	for range 2 {
		again, more, who := table.Ask(1, others), table.Held(1), table.Holders("db")
		spoil(again, 77)
		spoil(more, lock.Want{Name: "spoilt", Mode: 77})
		spoil(who, 77)
	}
	if !slices.Equal(ask, asked) || !slices.Equal(held, kept) || !slices.Equal(holders, were) {
		t.Error("what was told has changed")
	}
	spoil(ask, 77)
	spoil(held, lock.Want{Name: "spoilt", Mode: 77})
	spoil(holders, 77)
	if !slices.Equal(table.Ask(1, others), asked) || !slices.Equal(table.Held(1), kept) || !slices.Equal(table.Holders("db"), were) {
		t.Error("what is told is memory that the table keeps")
	}
	for id := range 5 {
		holds(t, table, id, "a", is, "b", s, "db", is)
	}
}

// TestNamesAreNew: a name that is told lies neither where the one lies that was handed in, nor where one lies that was told before.
func TestNamesAreNew(t *testing.T) { // DOC's rule 3
	table := lock.New()
	name := over([]byte("a name of many bytes"))
	taken(t, table, 1, name, is)
	taken(t, table, 2, name, is)
	seen := []string{name}
	for range 2 {
		for id := 1; id < 3; id++ {
			seen = append(seen, table.Held(id)[0].Name)
		}
	}
	for i, a := range seen {
		for _, b := range seen[:i] {
			if a != b || unsafe.StringData(a) == unsafe.StringData(b) {
				t.Fatalf("two of the names, %q and %q, are one memory", a, b)
			}
		}
	}
}

// TestAnswersStay: what was told does not change by what is done behind it.
func TestAnswersStay(t *testing.T) { // 14.4
	table := lock.New()
	taken(t, table, 1, "a", is, "b", s)
	taken(t, table, 2, "a", is)
	ask, held, holders := table.Ask(3, wants("a", x)), table.Held(1), table.Holders("a")
	taken(t, table, 1, "a", ix, "c", x, "", s)
	taken(t, table, 0, "a", is)
	table.Release(2)
	table.Release(1)
	taken(t, table, 7, "b", x)
	if !slices.Equal(ask, []int{1, 2}) || !slices.Equal(held, wants("a", is, "b", s)) || !slices.Equal(holders, []int{1, 2}) {
		t.Errorf("Ask %v, Held %v, Holders %v", ask, held, holders)
	}
}
