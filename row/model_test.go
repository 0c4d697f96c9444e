package row_test

import (
	"bytes"
	"math/rand"
	"slices"
	"testing"

	"palimpsest/api"
	"palimpsest/row"
)

// ahead tells, by the words of 11.1 and 17.1, whether a stands ahead of b.
func ahead(a, b []api.Value) bool {
	for i, v := range a {
		if i == len(b) {
			return false
		}
		w := b[i]
		switch {
		case v.Type != w.Type:
			return v.Type < w.Type
		case v.Type == api.TInt && v.Int != w.Int:
			return v.Int < w.Int
		case v.Type == api.TText && v.Text != w.Text:
			return v.Text < w.Text
		case v.Type == api.TBool && v.Bool != w.Bool:
			return w.Bool
		}
	}
	return len(a) < len(b)
}

// random makes a row of told types; its values are of few, so that many rows begin alike.
func random(g *rand.Rand) []api.Value {
	few := of(null, num(-1), num(0), num(256), num(least), num(most), text(""), text("\x00"), text("\x00\x00"), text("a"), text("a\x00"), text("ab"), text("\xFF"), no, yes)
	var l []api.Value
	for range g.Intn(6) {
		l = append(l, few[g.Intn(len(few))])
	}
	return l
}

// many are all rows of up to two of few values, and some by seed, in no order; some of them come twice.
func many() [][]api.Value {
	var l [][]api.Value
	words(nil, of(null, num(-1), num(0), num(256), text(""), text("\x00"), text("a"), text("a\x00"), text("ab"), text("\xFF"), no, yes), 2, func(r []api.Value) {
		l = append(l, slices.Clone(r))
	})
	g := rand.New(rand.NewSource(1))
	for range 700 {
		r := random(g)
		l = append(l, r, append(slices.Clone(r), num(g.Intn(3)-1)))
	}
	g.Shuffle(len(l), func(i, j int) { l[i], l[j] = l[j], l[i] })
	return l
}

// TestAllPairs: rows stand as the chapter's words say, and so do their bytes.
func TestAllPairs(t *testing.T) { // 17.1, 17.4, W7
	l := many()
	all := make([][]byte, len(l))
	for i, r := range l {
		b, e := row.Encode(r)
		if e != api.OK {
			t.Fatalf("Encode(%#v): %d", r, e)
		}
		all[i] = b
		decodes(t, b, r)
	}
	for i, a := range l {
		for j, b := range l {
			want := 0
			switch {
			case ahead(a, b):
				want = -1
			case ahead(b, a):
				want = 1
			}
			if n := row.Compare(a, b); n != want {
				t.Fatalf("Compare(%#v, %#v) = %d, want %d", a, b, n, want)
			}
			if n := bytes.Compare(all[i], all[j]); n != want {
				t.Fatalf("%X and %X stand %d, want %d", all[i], all[j], n, want)
			}
			if want == 0 && !slices.Equal(a, b) {
				t.Fatalf("%#v and %#v stand alike", a, b)
			}
		}
	}
}

// asTheirBytes wants Sort to tell the rows as their bytes stand when those are sorted.
func asTheirBytes(t *testing.T, l [][]api.Value) {
	t.Helper()
	var all [][]byte
	for _, r := range l {
		b, _ := row.Encode(r)
		all = append(all, b)
	}
	slices.SortFunc(all, bytes.Compare)
	sorted := row.Sort(l)
	if len(sorted) != len(l) {
		t.Fatalf("Sort of %d rows tells %d", len(l), len(sorted))
	}
	for i, r := range sorted {
		if b, _ := row.Encode(r); !bytes.Equal(b, all[i]) {
			t.Fatalf("at %d stands %#v, not %X", i, r, all[i])
		}
	}
}

// TestSortedAsTheirBytes: each row is told as often as it was, in the order of bytes, from whatever order they come.
func TestSortedAsTheirBytes(t *testing.T) { // 17.1, 17.4
	l := many()
	asTheirBytes(t, l)
	once := row.Sort(l)
	asTheirBytes(t, once)
	if !alike(row.Sort(once), once) {
		t.Fatal("what is sorted changes when it is sorted")
	}
	slices.Reverse(l)
	asTheirBytes(t, l)
	if !alike(row.Sort(l), once) {
		t.Fatal("the order in which rows come is told")
	}
	g := rand.New(rand.NewSource(2))
	for n := range 200 {
		var some [][]api.Value
		for range n {
			some = append(some, l[g.Intn(1+n/3)])
		}
		asTheirBytes(t, some)
	}
}

// TestEveryOrder: of every list of up to four of few rows the same is told, whatever their order.
func TestEveryOrder(t *testing.T) { // 17.1
	few := [][]api.Value{nil, of(null), of(num(1)), of(num(1), null), of(text("a"))}
	var every func(l [][]api.Value, left int)
	every = func(l [][]api.Value, left int) {
		want := slices.Clone(l)
		for i := range want { // each goes ahead of those that it stands ahead of
			for j := i; j > 0 && ahead(want[j], want[j-1]); j-- {
				want[j], want[j-1] = want[j-1], want[j]
			}
		}
		if got := row.Sort(l); !alike(got, want) {
			t.Fatalf("Sort(%#v) = %#v, want %#v", l, got, want)
		}
		for _, r := range few {
			if left > 0 {
				every(append(slices.Clone(l), r), left-1)
			}
		}
	}
	every(nil, 4)
}

// TestManyRows: as many as a select may go through, and more.
func TestManyRows(t *testing.T) { // 17.5
	g := rand.New(rand.NewSource(3))
	l := make([][]api.Value, 100000)
	for i := range l {
		l[i] = random(g)
	}
	asTheirBytes(t, l)
}

// TestWhateverValues: no value makes a call panic, and rows of whatever values can be sorted.
func TestWhateverValues(t *testing.T) { // 17.5
	g := rand.New(rand.NewSource(4))
	wild := func() []api.Value {
		l := random(g)
		for range g.Intn(4) {
			l = append(l, api.Value{Type: g.Intn(9) - 3, Int: int(g.Uint64()), Text: "wild", Bool: true}, kind(int(g.Uint64())))
		}
		return l
	}
	for range 3000 {
		var l [][]api.Value
		for range g.Intn(9) {
			l = append(l, wild())
		}
		sorted := row.Sort(l)
		if len(sorted) != len(l) || !slices.IsSortedFunc(sorted, row.Compare) {
			t.Fatalf("Sort(%#v) = %#v", l, sorted)
		}
		a, b := wild(), wild()
		if row.Compare(a, b) != -row.Compare(b, a) || row.Compare(a, a) != 0 {
			t.Fatalf("Compare(%#v, %#v)", a, b)
		}
		x := api.Table{Cols: make([]api.Col, len(a)), Indexes: []api.Index{{Col: int(g.Uint64())}, {Col: g.Intn(9) - 3}}}
		for i := range x.Cols {
			x.Cols[i] = api.Col{Type: a[i].Type, NotNull: g.Intn(2) == 0, Unique: g.Intn(2) == 0}
		}
		checks(t, x, wordly(x, a), a...)
		checks(t, x, wordly(x, b), b...)
		row.Text(a)
		if c, e := row.Encode(a); e == api.OK {
			back, ok := row.Decode(c)
			if again, e := row.Encode(back); !ok || e != api.OK || !bytes.Equal(again, c) {
				t.Fatalf("Decode(%X) = %#v, %v", c, back, ok)
			}
		}
	}
}
