package key_test

import (
	"bytes"
	"encoding/binary"
	"math"
	"math/rand"
	"slices"
	"strings"
	"testing"

	"palimpsest/api"
	"palimpsest/key"
)

// laid spells a value's bytes by the chapter's words, otherwise than the program does.
func laid(v api.Value) string {
	switch v.Type {
	case api.TInt:
		return "\x01" + string(binary.BigEndian.AppendUint64(nil, uint64(v.Int)-1<<63))
	case api.TText:
		return "\x02" + strings.ReplaceAll(v.Text, "\x00", "\x00\xFF") + "\x00\x00"
	case api.TBool:
		return map[bool]string{false: "\x03\x00", true: "\x03\x01"}[v.Bool]
	}
	return "\x00"
}

// words tells all words of at most so many of an alphabet's bytes.
func words(alphabet string, longest int) []string {
	l := []string{""}
	for from := 0; longest > 0; longest-- {
		until := len(l)
		for _, w := range l[from:until] {
			for i := range len(alphabet) {
				l = append(l, w+alphabet[i:i+1])
			}
		}
		from = until
	}
	return l
}

// begun tells the values of the table whose bytes b begins with.
func begun(table map[string]api.Value, b string) []api.Value {
	var l []api.Value
	for i := range len(b) + 1 {
		if v, ok := table[b[:i]]; ok {
			l = append(l, v)
		}
	}
	return l
}

// parted tells the list of the table's values whose bytes, one behind the other, b is: every way to cut b is tried.
func parted(table map[string]api.Value, b string) [][]api.Value {
	if b == "" {
		return [][]api.Value{nil}
	}
	var all [][]api.Value
	for i := range len(b) {
		v, ok := table[b[:i+1]]
		if !ok {
			continue
		}
		for _, rest := range parted(table, b[i+1:]) {
			all = append(all, append([]api.Value{v}, rest...))
		}
	}
	return all
}

// TestEveryShortWord: of every word of the bytes that have a meaning, whether a value's bytes begin it, and whether it is a list's. The table holds all values whose bytes could be in so short a word.
func TestEveryShortWord(t *testing.T) { // 11.2, 11.3
	const alphabet, longest = "\x00\x01\x02\x03\x04\xFF", 7
	table := map[string]api.Value{laid(api.Value{}): {}, laid(truth(false)): truth(false), laid(truth(true)): truth(true)}
	for _, s := range words(alphabet, longest-3) {
		table[laid(text(s))] = text(s)
	}
	for _, w := range words(alphabet, longest) {
		switch l := begun(table, w); len(l) {
		case 0:
			refuses(t, "no value's bytes", []byte(w))
		case 1:
			reads(t, "a value's bytes", []byte(w), l[0], len(laid(l[0])))
		default:
			t.Fatalf("%X begins with several: %#v", w, l)
		}
		switch l := parted(table, w); len(l) {
		case 0:
			noList(t, "no list's bytes", []byte(w))
		case 1:
			splits(t, "a list's bytes", []byte(w), l[0])
		default:
			t.Fatalf("%X is several lists: %#v", w, l)
		}
	}
}

// TestEveryNumber: behind 01 whatever eight bytes come are a number, whose bytes they are.
func TestEveryNumber(t *testing.T) { // 11.2, W7
	g := rand.New(rand.NewSource(3))
	l := words("\x00\x7F\x80\xFF", 8)
	for range 20000 {
		l = append(l, string(binary.BigEndian.AppendUint64(nil, g.Uint64())))
	}
	for _, w := range l {
		b := []byte("\x01" + w)
		if len(w) < 8 {
			refuses(t, "a number cut short", b)
			continue
		}
		n := int(binary.BigEndian.Uint64([]byte(w)) + 1<<63)
		reads(t, "a number", b, num(n), 9)
		if !bytes.Equal(key.Encode(num(n)), b) {
			t.Fatalf("Encode(%d) = %X, want %X", n, key.Encode(num(n)), b)
		}
	}
}

// many are values of all told Types, no two alike, in no order.
func many() []api.Value {
	l := []api.Value{{}, truth(false), truth(true)}
	for i := range 63 {
		n := 1 << i
		l = append(l, num(n), num(-n), num(n-1), num(-n-1), num(n+1), num(1-n))
	}
	l = append(l, num(math.MinInt), num(math.MinInt+1), num(math.MaxInt), num(math.MaxInt-1))
	for _, s := range words("\x00\x01a\xFE\xFF", 4) {
		l = append(l, text(s))
	}
	for _, s := range words("a\x00", 6) {
		l = append(l, text("same"+s))
	}
	g := rand.New(rand.NewSource(4))
	for range 100 {
		b := make([]byte, g.Intn(30))
		g.Read(b)
		l = append(l, num(int(g.Uint64())), text(string(b)))
	}
	var once []api.Value
	had := map[api.Value]bool{}
	for _, v := range l {
		if !had[v] {
			had[v] = true
			once = append(once, v)
		}
	}
	g.Shuffle(len(once), func(i, j int) { once[i], once[j] = once[j], once[i] })
	return once
}

// stand tells how two values of told Types stand, by the words of 11.1 alone.
func stand(a, b api.Value) int {
	ahead := a.Type < b.Type
	if a.Type == b.Type {
		switch a.Type {
		case api.TInt:
			ahead = a.Int < b.Int
		case api.TText:
			n := 0
			for n < len(a.Text) && n < len(b.Text) && a.Text[n] == b.Text[n] {
				n++
			}
			ahead = n < len(b.Text) && (n == len(a.Text) || a.Text[n] < b.Text[n])
		case api.TBool:
			ahead = !a.Bool && b.Bool
		}
	}
	switch {
	case ahead:
		return -1
	case a == b:
		return 0
	}
	return 1
}

// TestAllPairs: Compare is how the bytes stand, and none of them begins another.
func TestAllPairs(t *testing.T) { // 11.1, 11.3, W7
	l := many()
	all := make([][]byte, len(l))
	for i, v := range l {
		all[i] = key.Encode(v)
		if string(all[i]) != laid(v) {
			t.Fatalf("Encode(%#v) = %X, want %X", v, all[i], laid(v))
		}
		reads(t, "there and back", all[i], v, len(all[i]))
	}
	for i, a := range l {
		for j, b := range l {
			want := stand(a, b)
			if n := key.Compare(a, b); n != want {
				t.Fatalf("Compare(%#v, %#v) = %d, want %d", a, b, n, want)
			}
			if n := bytes.Compare(all[i], all[j]); n != want {
				t.Fatalf("%X and %X stand %d, want %d", all[i], all[j], n, want)
			}
			if i != j && bytes.HasPrefix(all[j], all[i]) {
				t.Fatalf("%X begins %X", all[i], all[j])
			}
		}
	}
}

// TestOrderOfLists: how the bytes of lists stand is how their first values stand that differ; a list that is another one's beginning stands ahead.
func TestOrderOfLists(t *testing.T) { // 11.3, W7
	g := rand.New(rand.NewSource(5))
	few := []api.Value{{}, num(-1), num(0), num(256), text(""), text("\x00"), text("a"), text("a\x00"), text("ab"), text("\xFF"), truth(false), truth(true)}
	lists := [][]api.Value{nil}
	for _, a := range few {
		lists = append(lists, []api.Value{a})
		for _, b := range few {
			lists = append(lists, []api.Value{a, b})
		}
	}
	for range 500 {
		var l []api.Value
		for range 1 + g.Intn(5) {
			l = append(l, few[g.Intn(len(few))])
		}
		lists = append(lists, l, append(slices.Clone(l), random(g)))
	}
	all := make([][]byte, len(lists))
	for i, l := range lists {
		all[i] = key.Join(l)
		splits(t, "there and back", all[i], l)
	}
	for i, a := range lists {
		for j, b := range lists {
			want := slices.CompareFunc(a, b, stand)
			if n := bytes.Compare(all[i], all[j]); n != want {
				t.Fatalf("bytes of %#v and %#v stand %d, want %d", a, b, n, want)
			}
		}
	}
}

// TestSortedAlike: sorted by Compare, values stand as their bytes do when those are sorted.
func TestSortedAlike(t *testing.T) { // 11.3
	l := many()
	var all [][]byte
	for _, v := range l {
		all = append(all, key.Encode(v))
	}
	slices.SortFunc(l, key.Compare)
	slices.SortFunc(all, bytes.Compare)
	for i, v := range l {
		if !bytes.Equal(key.Encode(v), all[i]) {
			t.Fatalf("at %d stands %#v, and %X", i, v, all[i])
		}
	}
}

// TestWhateverBytes asks for whatever bytes come: what is told is just what was written, and a panic fails it.
func TestWhateverBytes(t *testing.T) { // 11.2, 11.4
	g := rand.New(rand.NewSource(6))
	told, listed := 0, 0
	for range 60000 {
		b := make([]byte, g.Intn(24))
		g.Read(b)
		for i := range b {
			if g.Intn(3) > 0 {
				b[i] = "\x00\x00\x00\x01\x02\x02\x03\xFF"[g.Intn(8)]
			}
		}
		if v, n, ok := key.Decode(b); ok {
			told++
			if string(b[:n]) != laid(v) {
				t.Fatalf("Decode(%X) = %#v, %d", b, v, n)
			}
		} else {
			refuses(t, "whatever bytes", b)
		}
		if l, ok := key.Split(b); ok {
			listed++
			if !bytes.Equal(key.Join(l), b) {
				t.Fatalf("Split(%X) = %#v", b, l)
			}
		} else {
			noList(t, "whatever bytes", b)
		}
	}
	if told < 5000 || told > 55000 || listed < 1000 {
		t.Errorf("%d were told, %d were lists", told, listed)
	}
}

// TestWhateverValues: no value makes a call panic, and what is made of it is read.
func TestWhateverValues(t *testing.T) { // 11.2, 11.4
	g := rand.New(rand.NewSource(7))
	for range 20000 {
		v := random(g)
		w := api.Value{Type: g.Intn(9) - 3, Int: int(g.Uint64()), Text: v.Text, Bool: v.Bool}
		if g.Intn(9) == 0 {
			w.Type = int(g.Uint64())
		}
		b := key.Encode(w)
		if string(b) != laid(w) {
			t.Fatalf("Encode(%#v) = %X, want %X", w, b, laid(w))
		}
		x, n, ok := key.Decode(b)
		if !ok || n != len(b) || !bytes.Equal(key.Encode(x), b) {
			t.Fatalf("Decode(%X) = %#v, %d, %v", b, x, n, ok)
		}
		if key.Compare(v, w) != -key.Compare(w, v) || key.Compare(w, w) != 0 {
			t.Fatalf("Compare(%#v, %#v)", v, w)
		}
	}
}
