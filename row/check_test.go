package row_test

import (
	"slices"
	"strings"
	"testing"

	"palimpsest/api"
	"palimpsest/row"
)

// under is a table of those columns.
func under(cols ...api.Col) api.Table {
	return api.Table{Name: "t", Cols: cols}
}

// over is a table with indexes over those columns, too.
func over(t api.Table, cols ...int) api.Table {
	t.Indexes = slices.Clone(t.Indexes)
	for _, c := range cols {
		t.Indexes = append(t.Indexes, api.Index{Name: "i", Col: c})
	}
	return t
}

// checks wants Check to answer that.
func checks(t *testing.T, x api.Table, want api.Errno, l ...api.Value) {
	t.Helper()
	if e := row.Check(x, l); e != want {
		t.Errorf("Check(%s, %s) = %d, want %d", brief(x), brief(l), e, want)
	}
}

func long(n int) api.Value { return text(strings.Repeat("x", n)) }

var (
	anInt  = api.Col{Name: "a", Type: api.TInt}
	aText  = api.Col{Name: "b", Type: api.TText}
	aBool  = api.Col{Name: "c", Type: api.TBool}
	mustBe = api.Col{Name: "d", Type: api.TInt, NotNull: true}
	unique = api.Col{Name: "e", Type: api.TText, Unique: true}
)

func TestHowManyValues(t *testing.T) { // 17.2
	x := under(anInt, aText, aBool)
	checks(t, x, api.OK, num(1), text("a"), yes)
	checks(t, x, api.ErrType)
	checks(t, x, api.ErrType, num(1))
	checks(t, x, api.ErrType, num(1), text("a"))
	checks(t, x, api.ErrType, num(1), text("a"), yes, null)
	checks(t, x, api.ErrType, num(1), text("a"), yes, num(1), text("a"), yes)
	checks(t, under(), api.OK)
	checks(t, api.Table{}, api.OK, []api.Value{}...)
	checks(t, under(), api.ErrType, null)
	checks(t, under(anInt), api.ErrType)
	checks(t, under(mustBe), api.ErrType, null, null) // ahead of what stands in them
	checks(t, under(unique), api.ErrType, long(41), long(500))
	checks(t, under(anInt), api.ErrType, slices.Repeat(of(null), 1000)...)
}

func TestTypesOfColumns(t *testing.T) { // 17.2
	values := map[int][]api.Value{
		api.TNull: {null, {Int: 1, Text: long(41).Text, Bool: true}},
		api.TInt:  {num(0), num(-1), num(least), num(most), {Type: api.TInt, Int: 3, Text: long(500).Text}},
		api.TText: {text(""), text("a"), text("\x00"), text("1"), text("NULL")},
		api.TBool: {no, yes},
		9:         {kind(9)},
		-1:        {kind(-1)},
		257:       {kind(257)},
		258:       {kind(258)},
	}
	for col := range values {
		for of, l := range values {
			for _, v := range l {
				for _, is := range []api.Col{{Type: col}, {Type: col, Unique: true}, {Type: col, NotNull: true}} {
					want := api.OK
					switch {
					case of == api.TNull && is.NotNull:
						want = api.ErrNull
					case of != api.TNull && of != col:
						want = api.ErrType
					}
					checks(t, under(is), want, v)
					checks(t, under(anInt, is, aText), want, num(1), v, text("b"))
				}
			}
		}
	}
}

func TestNullInColumns(t *testing.T) { // 17.2
	for _, kind := range []int{api.TNull, api.TInt, api.TText, api.TBool, 9} {
		for _, unique := range []bool{false, true} {
			checks(t, under(api.Col{Type: kind, Unique: unique}), api.OK, null)
			checks(t, under(api.Col{Type: kind, Unique: unique, NotNull: true}), api.ErrNull, null)
			checks(t, over(under(api.Col{Type: kind, NotNull: true}), 0), api.ErrNull, null)
		}
	}
	checks(t, under(anInt, mustBe, aText), api.OK, null, num(0), null)
	checks(t, under(anInt, mustBe, aText), api.ErrNull, num(1), null, text("a"))
	checks(t, under(mustBe, mustBe), api.ErrNull, num(1), null)
	checks(t, under(mustBe, mustBe), api.ErrNull, null, num(1))
}

func TestTextsInIndexes(t *testing.T) { // 17.2: 40 bytes may stand there, not 41
	free, both := under(aText), under(unique)
	for _, x := range []api.Table{
		both, over(free, 0), over(both, 0), over(free, 0, 0), over(free, 1, 0), over(free, -1, 0), over(free, 5, -3, 0),
		{Cols: []api.Col{aText}, Indexes: []api.Index{{Unique: true}}},
	} {
		for n := range 41 {
			checks(t, x, api.OK, long(n))
		}
		checks(t, x, api.OK, text(strings.Repeat("\x00", 40))) // bytes of the text count, not those of its key
		checks(t, x, api.OK, text(strings.Repeat("\xC3\xA9", 20)))
		checks(t, x, api.ErrRow, text(strings.Repeat("\xC3\xA9", 20)+"a"))
		checks(t, x, api.ErrRow, text(strings.Repeat("\x00", 41)))
		for n := 41; n < 50; n++ {
			checks(t, x, api.ErrRow, long(n))
		}
		checks(t, x, api.ErrRow, long(477))
		checks(t, x, api.ErrRow, long(500))
		checks(t, x, api.OK, null)
	}
	for _, x := range []api.Table{free, over(free, -1), over(free, 1), over(free, 8, most, least), {Cols: []api.Col{aText}, Head: 3, Roots: []int{0, 1}}} {
		checks(t, x, api.OK, long(40))
		checks(t, x, api.OK, long(41))
		checks(t, x, api.OK, long(477))
		checks(t, x, api.ErrRow, long(478))
	}
	x := over(under(aText, aText, unique, aText), 1)
	for col := range 4 {
		l := of(null, null, null, null)
		l[col] = long(41)
		checks(t, x, map[int]api.Errno{1: api.ErrRow, 2: api.ErrRow}[col], l...)
		l[col] = long(40)
		checks(t, x, api.OK, l...)
	}
}

func TestLongRows(t *testing.T) { // 17.2: as Encode, behind all columns
	for _, l := range full() {
		var x api.Table
		for _, v := range l {
			x.Cols = append(x.Cols, api.Col{Type: v.Type})
		}
		checks(t, x, api.OK, l...)
		x.Cols = append(x.Cols, anInt)
		checks(t, x, api.ErrRow, append(slices.Clone(l), null)...)
	}
	x := under(aText, aText, aText)
	checks(t, x, api.OK, long(200), long(200), long(71))
	checks(t, x, api.ErrRow, long(200), long(200), long(72))
	checks(t, x, api.OK, long(400), text(strings.Repeat("\x00", 35)), text("a"))
	checks(t, x, api.OK, long(400), text(strings.Repeat("\x00", 36)), null)
	checks(t, x, api.ErrRow, long(400), text(strings.Repeat("\x00", 37)), null)
	checks(t, x, api.ErrRow, null, long(1<<20), null)
}

// TestWhichErrorIsFirst: the count, then column by column, then the whole.
func TestWhichErrorIsFirst(t *testing.T) { // 17.2
	x := under(mustBe, unique, aText, mustBe)
	checks(t, x, api.ErrNull, null, num(1), null, num(1))
	checks(t, x, api.ErrNull, null, long(41), null, num(1))
	checks(t, x, api.ErrType, text("a"), long(41), null, null)
	checks(t, x, api.ErrRow, num(1), long(41), num(1), null)
	checks(t, x, api.ErrRow, num(1), long(41), null, null)
	checks(t, x, api.ErrType, num(1), num(1), null, null)
	checks(t, x, api.ErrType, num(1), null, yes, null)
	checks(t, x, api.ErrNull, num(1), text("a"), long(478), null)
	checks(t, x, api.ErrType, num(1), text("a"), long(478), yes)
	checks(t, x, api.ErrRow, num(1), text("a"), long(478), num(1))
	checks(t, x, api.ErrType, null, long(41), num(1))
	checks(t, x, api.ErrType, null, long(41), num(1), null, null)
	checks(t, x, api.ErrType, long(500), null, null, null)
	checks(t, under(aText, anInt), api.ErrType, long(478), text("a"))
	checks(t, under(aText, mustBe), api.ErrNull, long(478), null)
}

// wordly tells by the chapter's words what Check is.
func wordly(x api.Table, l []api.Value) api.Errno {
	if len(l) != len(x.Cols) {
		return api.ErrType
	}
	whole := 0
	for i, c := range x.Cols {
		v := l[i]
		whole += size(v)
		if v.Type != api.TNull {
			if v.Type != c.Type {
				return api.ErrType
			}
		}
		if c.NotNull {
			if v.Type == api.TNull {
				return api.ErrNull
			}
		}
		index := slices.ContainsFunc(x.Indexes, func(y api.Index) bool { return y.Col == i })
		if v.Type == api.TText && (c.Unique || index) {
			if len(v.Text) >= 41 {
				return api.ErrRow
			}
		}
	}
	if whole >= 481 {
		return api.ErrRow
	}
	return api.OK
}

// TestEveryColumnOfEveryRow: all tables of two columns, with an index over either or none, against all rows of one to three values.
func TestEveryColumnOfEveryRow(t *testing.T) { // 17.2
	values := []api.Value{null, num(1), text("a"), long(40), long(41), long(430), long(500), yes, kind(9)}
	var cols []api.Col
	for _, kind := range []int{api.TNull, api.TInt, api.TText, api.TBool, 9} {
		for _, must := range []bool{false, true} {
			cols = append(cols, api.Col{Type: kind, NotNull: must}, api.Col{Type: kind, NotNull: must, Unique: true})
		}
	}
	var rows [][]api.Value
	for _, a := range values {
		rows = append(rows, of(a))
		for _, b := range values {
			rows = append(rows, of(a, b), of(a, b, null))
		}
	}
	told := map[api.Errno]int{}
	for _, a := range cols {
		for _, b := range cols {
			for _, x := range []api.Table{under(a, b), over(under(a, b), 0), over(under(a, b), 1), over(under(a, b), 1, 0, 2)} {
				for _, l := range rows {
					e := wordly(x, l)
					told[e]++
					checks(t, x, e, l...)
				}
			}
		}
	}
	for _, e := range []api.Errno{api.OK, api.ErrType, api.ErrNull, api.ErrRow} {
		if told[e] < 1000 {
			t.Errorf("%d was asked %d times", e, told[e])
		}
	}
}
