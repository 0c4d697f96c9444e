package row_test

import (
	"bytes"
	"math/rand"
	"slices"
	"strconv"
	"strings"
	"testing"

	"palimpsest/api"
	"palimpsest/key"
	"palimpsest/row"
)

// sample is a table of which every field has something of its own; its three lists have unlike lengths.
func sample() api.Table {
	return api.Table{
		Name:    "t",
		Cols:    []api.Col{{Name: "a", Type: api.TInt, NotNull: true}, {Name: "b\x00", Type: api.TText, Unique: true}},
		Indexes: []api.Index{{Name: "i", Col: 1, Unique: true}},
		Head:    5,
		Roots:   []int{6, 0x0102030405060708, -7},
	}
}

// spelt is sample as the chapters spell it, a part a line.
const spelt = `
02 74 0000
01 8000000000000002
02 61 0000          01 8000000000000001 03 01 03 00
02 62 00FF 0000     01 8000000000000002 03 00 03 01
01 8000000000000001
02 69 0000          01 8000000000000001 03 01
01 8000000000000005
01 8000000000000003
01 8000000000000006
01 8102030405060708
01 7FFFFFFFFFFFFFF9
`

// some are tables of all sorts; no limit of a table's is minded.
func some() []api.Table {
	l := []api.Table{
		{},
		{Name: "t"},
		{Head: 1},
		{Head: -1},
		{Name: "\x00\x00", Head: least},
		{Name: strings.Repeat("name", 200), Head: most},
		{Roots: []int{0}},
		{Roots: []int{-1, 0, 1, least, most}},
		{Cols: []api.Col{{}}},
		{Cols: []api.Col{{}, {}, {}}},
		{Cols: []api.Col{{Type: -1}, {Type: least}, {Type: most}, {Type: api.TBool, NotNull: true, Unique: true}}},
		{Cols: []api.Col{{Name: "a", NotNull: true}, {Name: "a", Unique: true}}},
		{Indexes: []api.Index{{}}},
		{Indexes: []api.Index{{Col: -1}, {Col: least, Unique: true}, {Name: "\xFF", Col: most}}},
		{Name: "t", Cols: []api.Col{{Name: "a", Type: api.TInt}}, Head: 3},
		{Name: "t", Indexes: []api.Index{{Name: "i"}}, Roots: []int{2}},
		{Name: "t", Cols: []api.Col{{Name: "a", Type: api.TInt}}, Indexes: []api.Index{{Name: "i"}, {Name: "j", Unique: true}}},
		{Name: "t", Cols: []api.Col{{Name: "a", Type: api.TInt}}, Head: 4, Roots: []int{5}},
		sample(),
	}
	many := api.Table{Name: "many"}
	for i := range 60 {
		name := strconv.Itoa(i)
		many.Cols = append(many.Cols, api.Col{Name: name, Type: i % 4, NotNull: i%3 == 0, Unique: i%5 == 0})
		many.Indexes = append(many.Indexes, api.Index{Name: "i" + name, Col: i, Unique: i%2 == 0}, api.Index{Col: -i})
		many.Roots = append(many.Roots, i, -i, i<<40)
	}
	return append(l, many)
}

// laid is a table as values, by the chapter's words.
func laid(x api.Table) []api.Value {
	cols, indexes, roots := of(num(len(x.Cols))), of(num(len(x.Indexes))), of(num(len(x.Roots)))
	for _, c := range x.Cols {
		cols = append(cols, text(c.Name), num(c.Type), truth(c.NotNull), truth(c.Unique))
	}
	for _, i := range x.Indexes {
		indexes = append(indexes, text(i.Name), num(i.Col), truth(i.Unique))
	}
	for _, r := range x.Roots {
		roots = append(roots, num(r))
	}
	return slices.Concat(of(text(x.Name)), cols, indexes, of(num(x.Head)), roots)
}

// parted reads a schema's values otherwise than the program does: where a count stands follows from those ahead of it, and then all types must be what the chapter says.
func parted(l []api.Value) (api.Table, bool) {
	types := ""
	for _, v := range l {
		types += "nitb"[v.Type : v.Type+1]
	}
	count := func(i int) int {
		if i < len(l) && types[i] == 'i' && l[i].Int <= len(l) {
			return l[i].Int
		}
		return -1
	}
	cols := count(1)
	if cols < 0 {
		return api.Table{}, false
	}
	atIndexes := 2 + 4*cols
	indexes := count(atIndexes)
	if indexes < 0 {
		return api.Table{}, false
	}
	atHead := atIndexes + 1 + 3*indexes
	roots := count(atHead + 1)
	if roots < 0 || types != "ti"+strings.Repeat("tibb", cols)+"i"+strings.Repeat("tib", indexes)+"ii"+strings.Repeat("i", roots) {
		return api.Table{}, false
	}
	x := api.Table{Name: l[0].Text, Head: l[atHead].Int}
	for c := range slices.Chunk(l[2:atIndexes], 4) {
		x.Cols = append(x.Cols, api.Col{Name: c[0].Text, Type: c[1].Int, NotNull: c[2].Bool, Unique: c[3].Bool})
	}
	for c := range slices.Chunk(l[atIndexes+1:atHead], 3) {
		x.Indexes = append(x.Indexes, api.Index{Name: c[0].Text, Col: c[1].Int, Unique: c[2].Bool})
	}
	for _, v := range l[atHead+2:] {
		x.Roots = append(x.Roots, v.Int)
	}
	return x, true
}

// same tells whether two tables are one, an empty list as good as none.
func same(a, b api.Table) bool {
	return a.Name == b.Name && a.Head == b.Head && slices.Equal(a.Cols, b.Cols) && slices.Equal(a.Indexes, b.Indexes) && slices.Equal(a.Roots, b.Roots)
}

// isNoTable wants b to be no table's Schema, and nothing told beside that.
func isNoTable(t *testing.T, b []byte) {
	t.Helper()
	x, ok := row.Table(b)
	if ok || !same(x, api.Table{}) {
		t.Fatalf("Table(%X) = %s, %v; want nothing", b, brief(x), ok)
	}
}

// isTable wants b to be the Schema of that table.
func isTable(t *testing.T, b []byte, want api.Table) {
	t.Helper()
	x, ok := row.Table(b)
	if !ok || !same(x, want) {
		t.Fatalf("Table(%X) = %s, %v; want %s", b, brief(x), ok, brief(want))
	}
}

// asParted wants what Table tells of these values to be what the chapter's words do; told whether they are a table's.
func asParted(t *testing.T, l []api.Value) bool {
	t.Helper()
	b := key.Join(l)
	x, ok := parted(l)
	if !ok {
		isNoTable(t, b)
		return false
	}
	isTable(t, b, x)
	if !bytes.Equal(row.Schema(x), b) {
		t.Fatalf("Schema(%s) = %X, want %X", brief(x), row.Schema(x), b)
	}
	return true
}

func TestSchema(t *testing.T) { // 17.3, 17.4, W7
	b := spell(t, spelt)
	if got := row.Schema(sample()); !bytes.Equal(got, b) {
		t.Fatalf("Schema = %X, want %X", got, b)
	}
	isTable(t, b, sample())
	if got, want := row.Schema(api.Table{}), spell(t, "02 0000 01 8000000000000000 01 8000000000000000 01 8000000000000000 01 8000000000000000"); !bytes.Equal(got, want) {
		t.Fatalf("Schema of nothing = %X, want %X", got, want)
	}
	for _, x := range some() {
		if got, want := row.Schema(x), key.Join(laid(x)); !bytes.Equal(got, want) {
			t.Fatalf("Schema(%s) = %X, want %X", brief(x), got, want)
		}
		isTable(t, row.Schema(x), x)
	}
	empty := api.Table{Name: "t", Cols: []api.Col{}, Indexes: []api.Index{}, Roots: []int{}}
	if got, want := row.Schema(empty), row.Schema(api.Table{Name: "t"}); !bytes.Equal(got, want) {
		t.Fatalf("Schema with empty lists = %X, want %X", got, want)
	}
}

// TestNoTwoSchemasAreOne: each field of a table is told by its bytes.
func TestNoTwoSchemasAreOne(t *testing.T) { // 17.4
	l := some()
	for _, change := range []func(x *api.Table){
		func(x *api.Table) { x.Name = "u" },
		func(x *api.Table) { x.Cols[0].Name = "u" },
		func(x *api.Table) { x.Cols[1].Name = "u" },
		func(x *api.Table) { x.Cols[0].Type = 3 },
		func(x *api.Table) { x.Cols[0].NotNull = false },
		func(x *api.Table) { x.Cols[0].Unique = true },
		func(x *api.Table) { x.Cols = x.Cols[:1] },
		func(x *api.Table) { x.Indexes[0].Name = "u" },
		func(x *api.Table) { x.Indexes[0].Col = 0 },
		func(x *api.Table) { x.Indexes[0].Unique = false },
		func(x *api.Table) { x.Indexes = nil },
		func(x *api.Table) { x.Head = 6 },
		func(x *api.Table) { x.Roots[0] = 5 },
		func(x *api.Table) { x.Roots = x.Roots[:2] },
	} {
		x := sample()
		change(&x)
		l = append(l, x)
	}
	for i, a := range l {
		for j, b := range l {
			if i != j && bytes.Equal(row.Schema(a), row.Schema(b)) {
				t.Errorf("one Schema of %s and %s", brief(a), brief(b))
			}
		}
	}
}

func TestTableCutShort(t *testing.T) { // 17.3
	isNoTable(t, nil)
	isNoTable(t, []byte{})
	for _, x := range some() {
		b := row.Schema(x)
		for i := range b {
			isNoTable(t, b[:i])
			isNoTable(t, b[:i:i])
		}
	}
}

func TestTableWithMoreBehind(t *testing.T) { // 17.3
	for _, x := range some() {
		b := row.Schema(x)
		for i := range 256 {
			isNoTable(t, append(slices.Clone(b), byte(i)))
		}
		for _, v := range of(null, num(0), num(-1), text(""), text("a"), no, yes) {
			isNoTable(t, append(slices.Clone(b), key.Encode(v)...))
		}
		for _, y := range some() {
			isNoTable(t, slices.Concat(b, row.Schema(y)))
		}
	}
}

// TestCountsThatLie: a count below 0, one less, one more, or far above what follows; none of them takes time or room.
func TestCountsThatLie(t *testing.T) { // 17.3, 17.5
	for _, x := range some() {
		l := laid(x)
		atIndexes := 2 + 4*len(x.Cols)
		for _, at := range []int{1, atIndexes, atIndexes + 1 + 3*len(x.Indexes) + 1} {
			is := l[at].Int
			for _, n := range []int{-1, -2, -is, least, least + is, is - 1, is + 1, is + 2, is * 2, len(l), len(l) + 1, 1 << 31, 1 << 32, 1<<32 + is, 1<<61 + is, 1<<62 + is, most} {
				lie := slices.Clone(l)
				lie[at] = num(n)
				if asParted(t, lie) && n != is {
					t.Fatalf("count %d of %s: %d is told", at, brief(x), n)
				}
			}
		}
	}
	for at := range 3 {
		l := of(text("t"), num(0), num(0), num(0), num(0))
		l[[]int{1, 2, 4}[at]] = num(most)
		isNoTable(t, key.Join(append(l, slices.Repeat(of(num(1)), 100000)...)))
	}
}

// TestOtherTypes: each value of a schema with one of each other type in its place.
func TestOtherTypes(t *testing.T) { // 17.3
	for _, x := range some() {
		l := laid(x)
		for i, was := range l {
			for _, v := range of(null, num(0), num(1), text(""), text("0"), no, yes) {
				if v.Type != was.Type {
					other := slices.Clone(l)
					other[i] = v
					isNoTable(t, key.Join(other))
				}
			}
		}
	}
}

// TestEveryByte: each byte of a schema with each other one in its place.
func TestEveryByte(t *testing.T) { // 17.3, 17.5
	was := row.Schema(sample())
	told := 0
	for i := range was {
		for n := range 256 {
			b := slices.Clone(was)
			b[i] = byte(n)
			l, ok := key.Split(b)
			if !ok {
				isNoTable(t, b)
			} else if asParted(t, l) {
				told++
			}
		}
	}
	if told < 10000 { // numbers and names of other bytes
		t.Errorf("%d were told", told)
	}
}

// words calls f with every list of up to so many of these values behind a beginning.
func words(ahead, values []api.Value, longest int, f func(l []api.Value)) {
	f(ahead)
	if longest == 0 {
		return
	}
	for _, v := range values {
		words(append(slices.Clone(ahead), v), values, longest-1, f)
	}
}

// TestEveryShortList: all short lists of values, alone and behind what a schema can begin with.
func TestEveryShortList(t *testing.T) { // 17.3
	values := of(text(""), num(0), num(1), num(2), num(-1), no, null)
	told := 0
	try := func(l []api.Value) {
		if asParted(t, l) {
			told++
		}
	}
	words(nil, values, 6, try)
	words(of(text("t"), num(1), text("a"), num(1), no, yes), values, 5, try)
	words(of(text("t"), num(0), num(1), text("i"), num(0), yes), values, 5, try)
	words(of(text("t"), num(1), text("a"), num(1)), values, 5, try)
	words(of(text("t"), num(0), num(0), num(9), num(3)), values, 5, try)
	if told < 100 {
		t.Errorf("%d were told", told)
	}
}

// TestWhateverList: schemas of which values are changed, left out, told twice or turned round at random.
func TestWhateverList(t *testing.T) { // 17.3, 17.5
	g := rand.New(rand.NewSource(17))
	tables, told := some(), 0
	const tries = 40000
	for range tries {
		l := laid(tables[g.Intn(len(tables)-1)]) // but that of many columns
		for range 1 + g.Intn(3) {
			i, j := g.Intn(len(l)), g.Intn(len(l))
			switch g.Intn(4) {
			case 0:
				l[i] = num(g.Intn(5) - 1)
			case 1:
				l[i], l[j] = l[j], l[i]
			case 2:
				l = slices.Insert(l, i, l[j])
			case 3:
				if len(l) > 1 {
					l = slices.Delete(l, i, i+1)
				}
			}
		}
		if asParted(t, l) {
			told++
		}
	}
	if told < tries/20 || told > tries/2 {
		t.Errorf("%d of %d were told", told, tries)
	}
}

func TestWhateverBytes(t *testing.T) { // 17.1, 17.3, 17.5: a panic fails it
	g := rand.New(rand.NewSource(18))
	rows, tables := 0, 0
	for range 60000 {
		b := make([]byte, g.Intn(40))
		g.Read(b)
		if g.Intn(2) == 0 {
			b = row.Schema(some()[g.Intn(8)])
		}
		for i := range b {
			if g.Intn(9) == 0 {
				b[i] = "\x00\x00\x01\x02\x03\x80\xFF"[g.Intn(7)]
			}
		}
		l, ok := row.Decode(b)
		if !ok {
			refuses(t, b)
			isNoTable(t, b)
			continue
		}
		rows++
		if len(b) <= api.MaxRow {
			encodes(t, l, b)
		}
		if asParted(t, l) {
			tables++
		}
	}
	if rows < 1000 || tables < 1000 {
		t.Errorf("%d were rows, %d were tables", rows, tables)
	}
}

func TestGreatTables(t *testing.T) { // 17.3, 17.5
	x := api.Table{
		Name: strings.Repeat("\x00", 100000), Cols: slices.Repeat(sample().Cols, 10000),
		Indexes: slices.Repeat(sample().Indexes, 10000), Roots: slices.Repeat(sample().Roots, 10000),
	}
	b := row.Schema(x)
	isTable(t, b, x)
	isNoTable(t, b[:len(b)-1])
	isNoTable(t, append(b, 0))
}
