package lock_test

import (
	"math"
	"slices"
	"testing"

	"palimpsest/api"
	"palimpsest/lock"
)

const is, ix, s, six, x = api.LIS, api.LIX, api.LS, api.LSIX, api.LX

// numbers are all modes, and numbers that are none; some of them are a mode again, if only their lowest bits are minded.
func numbers() []int {
	return []int{math.MinInt, -1 << 32, -5, -1, 0, is, ix, s, six, x, 6, 7, 8, 256 + is, 1<<32 + s, math.MaxInt}
}

func isMode(n int) bool { return n >= is && n <= x }

// wants tells a list of names and modes, one behind the other.
func wants(l ...any) []lock.Want {
	var all []lock.Want
	for i := 0; i < len(l); i += 2 {
		all = append(all, lock.Want{Name: l[i].(string), Mode: l[i+1].(int)})
	}
	return all
}

// taken wants id to be given all of l.
func taken(t *testing.T, table *lock.Table, id int, l ...any) {
	t.Helper()
	if a := table.Ask(id, wants(l...)); len(a) != 0 {
		t.Fatalf("Ask(%d, %v) = %v; want nobody", id, l, a)
	}
	if !table.Take(id, wants(l...)) {
		t.Fatalf("Take(%d, %v) = false", id, l)
	}
}

// refused wants these to keep id from l, and nothing to have changed behind that.
func refused(t *testing.T, table *lock.Table, id int, l []lock.Want, others ...int) {
	t.Helper()
	names := []string{"", "a", "b", "c", "db"}
	ids := append([]int{id, math.MinInt, -1, 0, 1, 2, 3, 4, 5, math.MaxInt}, others...)
	held, holders := everyHeld(table, ids), everyHolders(table, names)
	if a := table.Ask(id, l); !slices.Equal(a, others) {
		t.Fatalf("Ask(%d, %v) = %v; want %v", id, l, a, others)
	}
	if table.Take(id, l) {
		t.Fatalf("Take(%d, %v) = true", id, l)
	}
	if now := everyHeld(table, ids); !slices.EqualFunc(held, now, slices.Equal) {
		t.Fatalf("Take(%d, %v) was refused, and changed who holds what: %v, was %v", id, l, now, held)
	}
	if now := everyHolders(table, names); !slices.EqualFunc(holders, now, slices.Equal) {
		t.Fatalf("Take(%d, %v) was refused, and changed the holders: %v, was %v", id, l, now, holders)
	}
}

func everyHeld(table *lock.Table, ids []int) [][]lock.Want {
	var all [][]lock.Want
	for _, id := range ids {
		all = append(all, table.Held(id))
	}
	return all
}

func everyHolders(table *lock.Table, names []string) [][]int {
	var all [][]int
	for _, name := range names {
		all = append(all, table.Holders(name))
	}
	return all
}

// holds wants id to hold just these.
func holds(t *testing.T, table *lock.Table, id int, l ...any) {
	t.Helper()
	if h := table.Held(id); !slices.Equal(h, wants(l...)) {
		t.Fatalf("Held(%d) = %v; want %v", id, h, l)
	}
}

// heldBy wants just these to hold something on a name.
func heldBy(t *testing.T, table *lock.Table, name string, ids ...int) {
	t.Helper()
	if h := table.Holders(name); !slices.Equal(h, ids) {
		t.Fatalf("Holders(%q) = %v; want %v", name, h, ids)
	}
}

func TestExamples(t *testing.T) { // the chapter's table
	table := lock.New()
	taken(t, table, 1, "db", ix)
	taken(t, table, 2, "db", is)
	refused(t, table, 3, wants("db", x), 1, 2)
	refused(t, table, 2, wants("db", s), 1)
	taken(t, table, 2, "db", ix)
	holds(t, table, 2, "db", ix)
	table.Release(1)
	holds(t, table, 2, "db", ix)
	heldBy(t, table, "db", 2)
}

// TestNew: in a new table nobody holds anything, and tables have nothing in common.
func TestNew(t *testing.T) { // 14.2
	one, other := lock.New(), lock.New()
	taken(t, one, 1, "a", x, "", s)
	for _, id := range []int{-1, 0, 1, 2} {
		holds(t, other, id)
	}
	heldBy(t, other, "a")
	heldBy(t, other, "")
	taken(t, other, 2, "a", x, "", x)
	other.Release(1)
	holds(t, one, 1, "", s, "a", x)
}

func TestEmptyList(t *testing.T) { // 14.2
	table := lock.New()
	for range 2 {
		for _, id := range []int{-1, 0, 1, 2} {
			for _, l := range [][]lock.Want{nil, {}, make([]lock.Want, 0, 4)} {
				if a := table.Ask(id, l); len(a) != 0 || !table.Take(id, l) {
					t.Fatalf("Ask(%d) of nothing = %v", id, a)
				}
			}
		}
		holds(t, table, 2)
		table.Take(1, wants("a", x)) // what it holds makes no difference to who asks for nothing
	}
	holds(t, table, 1, "a", x)
	heldBy(t, table, "a", 1)
}

// TestNameTwice: all modes for one name are joined, wherever they stand in the list.
func TestNameTwice(t *testing.T) { // 14.2
	for _, l := range [][]any{
		{"a", ix, "a", s}, {"a", s, "a", ix}, {"a", ix, "a", is, "a", s, "a", ix}, {"a", is, "a", six}, {"a", six, "a", is},
		{"a", s, "a", 0, "a", ix}, {"a", 9, "a", ix, "a", -1, "a", s, "a", math.MaxInt},
	} {
		table := lock.New()
		taken(t, table, 7, l...)
		holds(t, table, 7, "a", six)
		heldBy(t, table, "a", 7)
	}
	table := lock.New()
	taken(t, table, 7, "a", ix, "b", is, "a", s, "b", x, "a", is)
	holds(t, table, 7, "a", six, "b", x)
}

// TestNameTwiceAgainstOthers: the first mode for a name may fit where all of them together do not.
func TestNameTwiceAgainstOthers(t *testing.T) { // 14.2
	table := lock.New()
	taken(t, table, 1, "a", is)
	taken(t, table, 2, "a", ix)
	refused(t, table, 3, wants("a", ix, "a", s), 2)
	refused(t, table, 3, wants("a", s, "b", x, "a", ix), 2)
	refused(t, table, 3, wants("a", is, "a", x), 1, 2)
	table.Release(2)
	taken(t, table, 3, "a", ix, "a", s)
	holds(t, table, 3, "a", six)
}

// TestEmptyName: it is a name as others are.
func TestEmptyName(t *testing.T) { // 14.2
	table := lock.New()
	taken(t, table, 1, "", ix, "a", x)
	taken(t, table, 2, "", is)
	heldBy(t, table, "", 1, 2)
	refused(t, table, 3, wants("", x), 1, 2)
	refused(t, table, 2, wants("", s), 1)
	holds(t, table, 1, "", ix, "a", x)
	table.Release(1)
	heldBy(t, table, "", 2)
	taken(t, table, 2, "", s)
	holds(t, table, 2, "", s)
}

// TestModesThatAreNone: such a want asks for nothing, whoever holds its name.
func TestModesThatAreNone(t *testing.T) { // 14.2
	for _, n := range numbers() {
		if isMode(n) {
			continue
		}
		table := lock.New()
		taken(t, table, 1, "a", x, "b", ix)
		taken(t, table, 2, "a", n)
		taken(t, table, 2, "c", n, "a", n, "c", n)
		holds(t, table, 2)
		heldBy(t, table, "a", 1)
		heldBy(t, table, "c")
		taken(t, table, 2, "a", n, "b", is, "c", n)
		holds(t, table, 2, "b", is)
		refused(t, table, 2, wants("c", n, "b", n, "b", s), 1)
		refused(t, table, 2, wants("c", x, "a", n, "a", is), 1)
		taken(t, table, 1, "a", n, "b", n, "c", n)
		holds(t, table, 1, "a", x, "b", ix)
		heldBy(t, table, "c")
	}
}

// TestAskOfOneThatHolds: what it would come to hold counts, not what it asks for.
func TestAskOfOneThatHolds(t *testing.T) { // 14.2
	for _, c := range []struct {
		held, other, asks, then int // then: what it holds, if the other lets it
		lets                    bool
	}{
		{is, is, ix, ix, true},
		{is, ix, s, s, false},
		{is, six, is, is, true},
		{is, six, ix, ix, false},
		{is, s, s, s, true},
		{ix, ix, ix, ix, true},
		{ix, is, is, ix, true},
		{ix, is, s, six, true},
		{ix, ix, s, six, false},
		{ix, ix, is, ix, true},
		{s, s, ix, six, false},
		{s, is, ix, six, true},
		{s, s, is, s, true},
		{s, s, s, s, true},
		{six, is, ix, six, true},
		{six, is, s, six, true},
		{six, is, x, x, false},
		{six, is, is, six, true},
	} {
		table := lock.New()
		taken(t, table, 5, "db", c.held)
		taken(t, table, 4, "db", c.other)
		if c.lets {
			taken(t, table, 5, "db", c.asks)
			holds(t, table, 5, "db", c.then)
		} else {
			refused(t, table, 5, wants("db", c.asks), 4)
			holds(t, table, 5, "db", c.held)
		}
		holds(t, table, 4, "db", c.other)
		heldBy(t, table, "db", 4, 5)
	}
}

// TestJoinedKeepsOthersOut: ix and then s become six, which is in the way of both.
func TestJoinedKeepsOthersOut(t *testing.T) { // 14.2
	table := lock.New()
	taken(t, table, 1, "db", ix)
	taken(t, table, 2, "db", ix)
	taken(t, table, 3, "db", is)
	refused(t, table, 2, wants("db", s), 1)
	table.Release(1)
	taken(t, table, 2, "db", s)
	holds(t, table, 2, "db", six)
	refused(t, table, 3, wants("db", ix), 2)
	refused(t, table, 3, wants("db", s), 2)
	taken(t, table, 3, "db", is)
}

// TestOneAlone: nobody is in the way of itself, nor told in its own answer.
func TestOneAlone(t *testing.T) { // 14.2
	for a := is; a <= x; a++ {
		for b := is; b <= x; b++ {
			table := lock.New()
			taken(t, table, 1, "db", a)
			taken(t, table, 1, "db", b)
			holds(t, table, 1, "db", lock.Join(a, b))
			heldBy(t, table, "db", 1)
		}
	}
}

func TestAskTellsOthers(t *testing.T) { // 14.2
	table := lock.New()
	for id := 5; id > 0; id-- { // taken in falling order of their ids
		taken(t, table, id, "db", is, string(rune('a'+id)), x)
	}
	refused(t, table, 9, wants("db", x), 1, 2, 3, 4, 5)
	refused(t, table, 3, wants("db", x), 1, 2, 4, 5)
	refused(t, table, 9, wants("f", is, "b", is, "d", is), 1, 3, 5)
	refused(t, table, 9, wants("f", is, "db", is, "b", is), 1, 5)
	refused(t, table, 1, wants("b", x, "c", is), 2)
	taken(t, table, 9, "db", six)
	refused(t, table, 4, wants("db", ix), 9)
	refused(t, table, 4, wants("db", x), 1, 2, 3, 5, 9)
}

// TestAskTellsOnce: one that is in the way on several names is told once.
func TestAskTellsOnce(t *testing.T) { // 14.2
	table := lock.New()
	taken(t, table, 8, "a", x, "b", x, "c", six, "db", is)
	taken(t, table, 2, "db", is)
	refused(t, table, 3, wants("a", is, "b", s, "c", ix, "a", x, "db", is), 8)
	refused(t, table, 3, wants("db", x, "a", is, "c", s), 2, 8)
}

// TestIDs: every number is a transaction's.
func TestIDs(t *testing.T) { // 14.2
	table := lock.New()
	ids := []int{math.MinInt, -2, -1, 0, 1, math.MaxInt}
	for _, id := range slices.Backward(ids) {
		taken(t, table, id, "db", is)
	}
	heldBy(t, table, "db", ids...)
	refused(t, table, 7, wants("db", x), ids...)
	for i, id := range ids {
		holds(t, table, id, "db", is)
		refused(t, table, id, wants("db", x), slices.Delete(slices.Clone(ids), i, i+1)...)
	}
	table.Release(0)
	heldBy(t, table, "db", math.MinInt, -2, -1, 1, math.MaxInt)
	table.Release(-1)
	holds(t, table, -1)
	holds(t, table, 1, "db", is)
	taken(t, table, 0, "a", x)
	refused(t, table, -1, wants("a", is), 0)
}

// TestRefusedLeavesAll: whichever of the list is refused, none of it is given.
func TestRefusedLeavesAll(t *testing.T) { // 14.2
	for _, bad := range []string{"", "a", "b", "c"} {
		for _, before := range []int{0, is} {
			table := lock.New()
			taken(t, table, 2, "a", before, "c", before)
			taken(t, table, 1, bad, ix)
			refused(t, table, 2, wants("", s, "a", s, "b", s, "c", s), 1)
			refused(t, table, 2, wants("c", x, "b", x, "a", x, "", x, "a", s), 1)
			table.Release(1)
			taken(t, table, 2, "", s, "a", s, "b", s, "c", s)
			holds(t, table, 2, "", s, "a", s, "b", s, "c", s)
		}
	}
}

func TestRelease(t *testing.T) { // 14.2
	table := lock.New()
	table.Release(1) // holds nothing
	taken(t, table, 1, "a", x, "db", ix)
	taken(t, table, 2, "b", x, "db", ix)
	table.Release(3)
	refused(t, table, 2, wants("a", is), 1)
	for range 2 {
		table.Release(1)
		holds(t, table, 1)
		heldBy(t, table, "a")
		heldBy(t, table, "db", 2)
		holds(t, table, 2, "b", x, "db", ix)
	}
	taken(t, table, 2, "a", is)
	taken(t, table, 1, "db", is) // nothing is left of the ix that it had
	holds(t, table, 1, "db", is)
	taken(t, table, 2, "db", s)
	table.Release(2)
	table.Release(1)
	for _, name := range []string{"", "a", "b", "db"} {
		heldBy(t, table, name)
	}
	taken(t, table, 1, "a", x, "b", x, "db", x)
}

// TestHeldAndHoldersOfNone: of ids and names that are not there.
func TestHeldAndHoldersOfNone(t *testing.T) { // 14.2
	table := lock.New()
	taken(t, table, 1, "a", x)
	for _, id := range []int{math.MinInt, -1, 0, 2, math.MaxInt} {
		holds(t, table, id)
	}
	for _, name := range []string{"", "A", "aa", "a\x00", "\x00", "b"} {
		heldBy(t, table, name)
	}
	table.Ask(2, wants("b", x)) // who asks holds nothing by that
	holds(t, table, 2)
	heldBy(t, table, "b")
	holds(t, table, 1, "a", x)
	heldBy(t, table, "a", 1)
}

// TestHeldByRisingName: byte by byte, a text's beginning ahead of it, whatever the order in which they were taken.
func TestHeldByRisingName(t *testing.T) { // 14.2
	rising := []string{"", "\x00", "\x00\x00", "B", "Z", "a", "a\x00", "a\x00b", "aa", "ab", "b", "\x7F", "\x80", "\xC3\xA9", "\xFF", "\xFF\x00"}
	var want []lock.Want
	for i, name := range rising {
		want = append(want, lock.Want{Name: name, Mode: is + i%5})
	}
	for step := 1; step < len(rising); step += 2 { // a number that has nothing in common with 16 leads to each of them
		all, one := lock.New(), lock.New()
		var l []lock.Want
		for i := range rising {
			w := want[(i*step+step)%len(rising)]
			l = append(l, w)
			one.Take(1, []lock.Want{w})
		}
		all.Take(1, l)
		if !slices.Equal(all.Held(1), want) || !slices.Equal(one.Held(1), want) {
			t.Fatalf("Held = %v and %v; want %v", all.Held(1), one.Held(1), want)
		}
		for _, name := range rising {
			heldBy(t, all, name, 1)
		}
	}
}

// TestMany: many names of one transaction, and many transactions on one name.
func TestMany(t *testing.T) { // 14.4
	const many = 3000
	table := lock.New()
	var ids []int
	var names []lock.Want
	for i := range many {
		name := string([]byte{byte(i >> 8), byte(i)})
		names = append(names, lock.Want{Name: name, Mode: x})
		taken(t, table, -i, "db", is)
		ids = append([]int{-i}, ids...)
	}
	heldBy(t, table, "db", ids...)
	if a := table.Ask(1, wants("db", x)); !slices.Equal(a, ids) {
		t.Fatalf("Ask tells %d of %d", len(a), many)
	}
	if !table.Take(1, names) || !slices.Equal(table.Held(1), names) {
		t.Fatal("many names")
	}
	for _, id := range ids {
		table.Release(id)
	}
	table.Release(1)
	holds(t, table, 1)
	taken(t, table, 2, "db", x, names[0].Name, x)
}
