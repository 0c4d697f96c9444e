package redo_test

import (
	"math"
	"reflect"
	"slices"
	"testing"

	"palimpsest/api"
	"palimpsest/redo"
)

func begin(lsn, txn int) redo.Line {
	return redo.Line{LSN: lsn, Rec: api.Rec{Kind: api.RBegin, Txn: txn}}
}

// update changes one byte at the page's beginning, which was before.
func update(lsn, txn, prev, page int, before string) redo.Line {
	return redo.Line{LSN: lsn, Rec: api.Rec{Kind: api.RUpdate, Txn: txn, Prev: prev, Page: page, Before: []byte(before), After: []byte("!")}}
}

func clr(lsn, txn, prev, page, next int) redo.Line {
	return redo.Line{LSN: lsn, Rec: api.Rec{Kind: api.RClr, Txn: txn, Prev: prev, Page: page, Next: next, After: []byte("?")}}
}

func commit(lsn, txn, prev int) redo.Line {
	return redo.Line{LSN: lsn, Rec: api.Rec{Kind: api.RCommit, Txn: txn, Prev: prev}}
}

func abort(lsn, txn, prev int) redo.Line {
	return redo.Line{LSN: lsn, Rec: api.Rec{Kind: api.RAbort, Txn: txn, Prev: prev}}
}

func end(lsn, txn, prev int) redo.Line {
	return redo.Line{LSN: lsn, Rec: api.Rec{Kind: api.REnd, Txn: txn, Prev: prev}}
}

func check(lsn, count int, txns []api.Txn, dirty []api.Dirty) redo.Line {
	return redo.Line{LSN: lsn, Rec: api.Rec{Kind: api.RCheck, Txns: txns, Dirty: dirty, Count: count}}
}

func run(id, last int) api.Txn  { return api.Txn{ID: id, Last: last, State: api.TRun} }
func done(id, last int) api.Txn { return api.Txn{ID: id, Last: last, State: api.TDone} }
func back(id, last int) api.Txn { return api.Txn{ID: id, Last: last, State: api.TUndo} }

// undoes is the record that undoes an update.
func undoes(txn, page int, after string, next int) api.Rec {
	return api.Rec{Kind: api.RClr, Txn: txn, Page: page, After: []byte(after), Next: next}
}

func ends(txn int) api.Rec { return api.Rec{Kind: api.REnd, Txn: txn} }

// analysis wants Analyze to tell that.
func analysis(t *testing.T, l []redo.Line, txns []api.Txn, dirty []api.Dirty, commits int) {
	t.Helper()
	a, d, n := redo.Analyze(l)
	if !slices.Equal(a, txns) || !slices.Equal(d, dirty) || n != commits {
		t.Errorf("Analyze = %v, %v, %d; want %v, %v, %d", a, d, n, txns, dirty, commits)
	}
}

// redoes wants Redo to tell these LSNs.
func redoes(t *testing.T, l []redo.Line, dirty []api.Dirty, lsn func(int) int, want ...int) {
	t.Helper()
	if got := redo.Redo(l, dirty, lsn); !slices.Equal(got, want) {
		t.Errorf("Redo = %v, want %v", got, want)
	}
}

// writes wants Undo to tell these records.
func writes(t *testing.T, l []redo.Line, txns []api.Txn, want ...api.Rec) {
	t.Helper()
	if got := redo.Undo(l, txns); !sameRecs(got, want) {
		t.Errorf("Undo = %v, want %v", got, want)
	}
}

// sameRecs holds the records against each other field by field, but for what nil and an empty list differ in.
func sameRecs(a, b []api.Rec) bool {
	return slices.EqualFunc(a, b, func(x, y api.Rec) bool { return reflect.DeepEqual(plain(x), plain(y)) })
}

func plain(r api.Rec) api.Rec {
	if len(r.Before) == 0 {
		r.Before = nil
	}
	if len(r.After) == 0 {
		r.After = nil
	}
	if len(r.Txns) == 0 {
		r.Txns = nil
	}
	if len(r.Dirty) == 0 {
		r.Dirty = nil
	}
	return r
}

func TestExamples(t *testing.T) { // 6.2, 6.3, 6.4
	l := []redo.Line{begin(1, 7), update(40, 7, 1, 2, "a")}
	analysis(t, l, []api.Txn{run(7, 40)}, []api.Dirty{{Page: 2, LSN: 40}}, 0)
	redoes(t, l, []api.Dirty{{Page: 2, LSN: 40}}, nil, 40)
	writes(t, l, []api.Txn{run(7, 40)}, undoes(7, 2, "a", 1), ends(7))
	l = append(l, commit(90, 7, 40))
	analysis(t, l, []api.Txn{done(7, 90)}, []api.Dirty{{Page: 2, LSN: 40}}, 1)
	redoes(t, l, []api.Dirty{{Page: 2, LSN: 40}}, nil, 40)
	writes(t, l, []api.Txn{done(7, 90)})
}

func TestNoRecord(t *testing.T) { // 6.1 to 6.5, 6.8
	for _, l := range [][]redo.Line{nil, {}} {
		analysis(t, l, nil, nil, 0)
		redoes(t, l, nil, nil)
		redoes(t, l, []api.Dirty{{Page: 1, LSN: 1}}, func(int) int { t.Error("asked"); return 0 })
		writes(t, l, nil)
		writes(t, l, []api.Txn{})
		writes(t, l, []api.Txn{run(4, 9), done(3, 8), back(2, 0)}, ends(2), ends(4))
		for _, id := range []int{math.MinInt, -1, 0, 1, math.MaxInt} {
			if n := redo.Next(l, id); n != 0 {
				t.Errorf("Next(nothing, %d) = %d", id, n)
			}
		}
	}
}

// TestTable goes through a log record by record.
func TestTable(t *testing.T) { // 6.2
	var l []redo.Line
	for _, x := range []struct {
		line    redo.Line
		txns    []api.Txn
		commits int
	}{
		{begin(3, 5), []api.Txn{run(5, 3)}, 0},
		{begin(4, 2), []api.Txn{run(2, 4), run(5, 3)}, 0},
		{update(6, 5, 3, 1, "a"), []api.Txn{run(2, 4), run(5, 6)}, 0},
		{begin(7, 3), []api.Txn{run(2, 4), run(3, 7), run(5, 6)}, 0},
		{abort(9, 2, 4), []api.Txn{back(2, 9), run(3, 7), run(5, 6)}, 0},
		{clr(10, 5, 6, 1, 3), []api.Txn{back(2, 9), run(3, 7), run(5, 10)}, 0},
		{clr(11, 2, 9, 1, 4), []api.Txn{back(2, 11), run(3, 7), run(5, 10)}, 0},
		{commit(12, 5, 10), []api.Txn{back(2, 11), run(3, 7), done(5, 12)}, 1},
		{end(14, 2, 11), []api.Txn{run(3, 7), done(5, 12)}, 1},
		{commit(15, 3, 7), []api.Txn{done(3, 15), done(5, 12)}, 2},
		{end(20, 3, 15), []api.Txn{done(5, 12)}, 2},
		{end(21, 5, 12), nil, 2},
		{end(22, 8, 0), nil, 2},
		{update(23, 6, 0, 1, "a"), []api.Txn{run(6, 23)}, 2},
		{commit(24, 9, 0), []api.Txn{run(6, 23), done(9, 24)}, 3},
		{abort(25, 1, 0), []api.Txn{back(1, 25), run(6, 23), done(9, 24)}, 3},
		{begin(26, 5), []api.Txn{back(1, 25), run(5, 26), run(6, 23), done(9, 24)}, 3},
		{redo.Line{LSN: 27, Rec: api.Rec{Kind: 99, Txn: 4}}, []api.Txn{back(1, 25), run(4, 27), run(5, 26), run(6, 23), done(9, 24)}, 3},
		{redo.Line{LSN: 28, Rec: api.Rec{Txn: math.MaxInt}}, []api.Txn{back(1, 25), run(4, 27), run(5, 26), run(6, 23), done(9, 24), run(math.MaxInt, 28)}, 3},
	} {
		l = append(l, x.line)
		txns, _, commits := redo.Analyze(l)
		if !slices.Equal(txns, x.txns) || commits != x.commits {
			t.Errorf("up to %d: %v, %d; want %v, %d", x.line.LSN, txns, commits, x.txns, x.commits)
		}
	}
}

// TestStates: a state that a record has brought stays until another brings a new one.
func TestStates(t *testing.T) { // 6.2
	l := []redo.Line{begin(1, 1), update(2, 1, 1, 3, "a"), update(3, 1, 2, 3, "b"), abort(4, 1, 3)}
	dirty := []api.Dirty{{Page: 3, LSN: 2}}
	analysis(t, l, []api.Txn{back(1, 4)}, dirty, 0)
	l = append(l, clr(5, 1, 4, 3, 2))
	analysis(t, l, []api.Txn{back(1, 5)}, dirty, 0)
	l = append(l, clr(6, 1, 5, 3, 1))
	analysis(t, l, []api.Txn{back(1, 6)}, dirty, 0)
	analysis(t, append(slices.Clone(l), end(7, 1, 6)), nil, dirty, 0)
	analysis(t, append(slices.Clone(l), commit(7, 1, 6)), []api.Txn{done(1, 7)}, dirty, 1)
	told := []redo.Line{check(8, 4, []api.Txn{back(1, 6), done(2, 7)}, nil), clr(9, 1, 6, 3, 1), begin(10, 2)}
	analysis(t, told, []api.Txn{back(1, 9), done(2, 10)}, []api.Dirty{{Page: 3, LSN: 9}}, 4)
}

// TestNobody: a record whose Txn is not above 0 is no transaction's, but it may change a page.
func TestNobody(t *testing.T) { // 6.2
	for _, id := range []int{0, -1, math.MinInt} {
		for _, f := range []func(id int) redo.Line{
			func(id int) redo.Line { return begin(5, id) },
			func(id int) redo.Line { return commit(5, id, 0) },
			func(id int) redo.Line { return abort(5, id, 0) },
			func(id int) redo.Line { return end(5, id, 0) },
			func(id int) redo.Line { return redo.Line{LSN: 5, Rec: api.Rec{Kind: 8, Txn: id}} },
		} {
			analysis(t, []redo.Line{begin(1, 1), f(id)}, []api.Txn{run(1, 1)}, nil, 0)
		}
		analysis(t, []redo.Line{update(5, id, 0, 3, "a"), clr(6, id, 0, 4, 0)}, nil, []api.Dirty{{Page: 3, LSN: 5}, {Page: 4, LSN: 6}}, 0)
	}
}

func TestDirty(t *testing.T) { // 6.2
	l := []redo.Line{
		update(2, 1, 0, 9, "a"), clr(3, 1, 2, 4, 0), update(5, 1, 3, 9, "a"), clr(6, 1, 5, 9, 3), update(7, 2, 0, 4, "a"),
		update(8, 1, 6, -3, "a"), update(9, 1, 8, 5, "a"), commit(10, 1, 9), end(11, 1, 10),
	}
	analysis(t, l, []api.Txn{run(2, 7)}, []api.Dirty{{Page: -3, LSN: 8}, {Page: 4, LSN: 3}, {Page: 5, LSN: 9}, {Page: 9, LSN: 2}}, 1)
	for _, kind := range []int{-1, 0, api.RBegin, api.RCommit, api.RAbort, api.REnd, api.RCheck, 8} {
		_, dirty, _ := redo.Analyze([]redo.Line{{LSN: 3, Rec: api.Rec{Kind: kind, Txn: 1, Page: 2}}})
		if len(dirty) != 0 {
			t.Errorf("a record of kind %d makes dirty %v", kind, dirty)
		}
	}
}

func TestCheckpoint(t *testing.T) { // 6.1, 6.2
	ahead := []redo.Line{begin(1, 1), begin(2, 2), update(3, 1, 1, 5, "a"), commit(4, 1, 3)}
	first := check(5, 1, []api.Txn{run(2, 2), done(1, 4)}, []api.Dirty{{Page: 5, LSN: 3}})
	between := []redo.Line{end(6, 1, 4), update(7, 2, 2, 6, "a"), begin(8, 3), update(9, 3, 8, 7, "a"), commit(10, 3, 9)}
	second := check(11, 40, []api.Txn{run(9, 7), run(4, 6), back(-2, 5)}, []api.Dirty{{Page: 8, LSN: 4}, {Page: 6, LSN: 7}})

	l := append(ahead, first)
	analysis(t, l, []api.Txn{done(1, 4), run(2, 2)}, []api.Dirty{{Page: 5, LSN: 3}}, 1)
	analysis(t, l[4:], []api.Txn{done(1, 4), run(2, 2)}, []api.Dirty{{Page: 5, LSN: 3}}, 1)
	l = append(l, between...)
	dirty := []api.Dirty{{Page: 5, LSN: 3}, {Page: 6, LSN: 7}, {Page: 7, LSN: 9}}
	analysis(t, l, []api.Txn{run(2, 7), done(3, 10)}, dirty, 2)
	l = append(l, second)
	dirty = []api.Dirty{{Page: 6, LSN: 7}, {Page: 8, LSN: 4}}
	analysis(t, l, []api.Txn{back(-2, 5), run(4, 6), run(9, 7)}, dirty, 40)
	analysis(t, l[10:], []api.Txn{back(-2, 5), run(4, 6), run(9, 7)}, dirty, 40)
	l = append(l, update(12, 4, 6, 8, "a"), update(13, 4, 12, 5, "a"), end(14, 9, 7), commit(15, 2, 7))
	dirty = []api.Dirty{{Page: 5, LSN: 13}, {Page: 6, LSN: 7}, {Page: 8, LSN: 4}}
	analysis(t, l, []api.Txn{back(-2, 5), done(2, 15), run(4, 13)}, dirty, 41)
	analysis(t, append(l, check(16, 0, nil, nil)), nil, nil, 0)
	analysis(t, append(l, check(16, 7, nil, nil), begin(17, 4)), []api.Txn{run(4, 17)}, nil, 7)
}

// TestEndsBehindCheckpoint: those that a checkpoint tells of go on behind it, in every way.
func TestEndsBehindCheckpoint(t *testing.T) { // 6.1, 6.2
	told := check(50, 3, []api.Txn{run(1, 10), run(2, 20), run(3, 30), run(4, 40)}, nil)
	for _, x := range []struct {
		behind  []redo.Line
		txns    []api.Txn
		commits int
	}{
		{nil, []api.Txn{run(1, 10), run(2, 20), run(3, 30), run(4, 40)}, 3},
		{[]redo.Line{end(60, 2, 20)}, []api.Txn{run(1, 10), run(3, 30), run(4, 40)}, 3},
		{[]redo.Line{commit(60, 2, 20)}, []api.Txn{run(1, 10), done(2, 60), run(3, 30), run(4, 40)}, 4},
		{[]redo.Line{commit(60, 2, 20), end(70, 2, 60), commit(80, 4, 40)}, []api.Txn{run(1, 10), run(3, 30), done(4, 80)}, 5},
		{[]redo.Line{abort(60, 4, 40)}, []api.Txn{run(1, 10), run(2, 20), run(3, 30), back(4, 60)}, 3},
		{[]redo.Line{abort(60, 4, 40), end(70, 4, 60)}, []api.Txn{run(1, 10), run(2, 20), run(3, 30)}, 3},
		{[]redo.Line{end(60, 1, 10), end(61, 2, 20), end(62, 3, 30), end(63, 4, 40)}, nil, 3},
	} {
		analysis(t, append([]redo.Line{commit(10, 8, 0), told}, x.behind...), x.txns, nil, x.commits)
	}
}

func TestRedo(t *testing.T) { // 6.3
	l := []redo.Line{
		update(10, 1, 0, 1, "a"), update(20, 1, 10, 2, "a"), check(30, 9, []api.Txn{run(1, 20)}, []api.Dirty{{Page: 1, LSN: 10}}),
		clr(40, 1, 20, 1, 10), begin(50, 2), update(60, 2, 50, 3, "a"), commit(70, 2, 60), update(80, 1, 40, 1, "a"), end(90, 2, 70),
		clr(100, 1, 80, 2, 40),
	}
	at := func(lsn int) func(int) int { return func(int) int { return lsn } }
	one := []api.Dirty{{Page: 1, LSN: 10}}
	redoes(t, l, nil, nil)
	redoes(t, l, []api.Dirty{}, nil)
	redoes(t, l, one, nil, 10, 40, 80)
	redoes(t, l, one, at(0), 10, 40, 80)
	redoes(t, l, one, at(9), 10, 40, 80)
	redoes(t, l, one, at(10), 40, 80)
	redoes(t, l, one, at(11), 40, 80)
	redoes(t, l, one, at(79), 80)
	redoes(t, l, one, at(80))
	redoes(t, l, one, at(math.MaxInt))
	redoes(t, l, one, at(math.MinInt), 10, 40, 80)
	redoes(t, l, []api.Dirty{{Page: 1, LSN: 11}}, nil, 40, 80)
	redoes(t, l, []api.Dirty{{Page: 1, LSN: 40}}, nil, 40, 80)
	redoes(t, l, []api.Dirty{{Page: 1, LSN: 41}}, nil, 80)
	redoes(t, l, []api.Dirty{{Page: 1, LSN: 81}}, nil)
	redoes(t, l, []api.Dirty{{Page: 1, LSN: -4}}, nil, 10, 40, 80)
	redoes(t, l, []api.Dirty{{Page: 7, LSN: 1}}, nil)
	redoes(t, l, []api.Dirty{{Page: 3, LSN: 60}, {Page: 2, LSN: 21}}, nil, 60, 100)
	redoes(t, l, []api.Dirty{{Page: 3, LSN: 0}, {Page: 2, LSN: 20}, {Page: 1, LSN: 80}}, nil, 20, 60, 80, 100)
	redoes(t, l, []api.Dirty{{Page: 1, LSN: 80}, {Page: 1, LSN: 40}, {Page: 1, LSN: 90}}, nil, 40, 80)
}

// TestRedoBelowNought: a nil lsn tells 0, also of records that stand there or below.
func TestRedoBelowNought(t *testing.T) { // 6.3
	l := []redo.Line{update(-5, 1, 0, 1, "a"), update(0, 1, -5, 1, "a"), update(1, 1, 0, 1, "a")}
	dirty := []api.Dirty{{Page: 1, LSN: -9}}
	redoes(t, l, dirty, nil, 1)
	redoes(t, l, dirty, func(int) int { return -6 }, -5, 0, 1)
}

// TestRedoAsks: each page is asked once, when the first record comes that it may lack, and never if none comes.
func TestRedoAsks(t *testing.T) { // 6.3
	l := []redo.Line{
		update(10, 1, 0, 4, "a"), update(20, 1, 0, 3, "a"), update(30, 1, 0, 2, "a"), update(40, 1, 0, 3, "a"),
		update(50, 1, 0, 4, "a"), clr(60, 1, 0, 3, 0), update(70, 1, 0, 1, "a"), update(80, 1, 0, 2, "a"), begin(90, 5),
	}
	for _, x := range []struct {
		dirty        []api.Dirty
		lsn          int
		asked, tells []int
	}{
		{[]api.Dirty{{Page: 1, LSN: 1}, {Page: 2, LSN: 1}, {Page: 3, LSN: 1}, {Page: 4, LSN: 1}}, 0, []int{4, 3, 2, 1}, []int{10, 20, 30, 40, 50, 60, 70, 80}},
		{[]api.Dirty{{Page: 1, LSN: 1}, {Page: 2, LSN: 1}, {Page: 3, LSN: 1}, {Page: 4, LSN: 1}}, 45, []int{4, 3, 2, 1}, []int{50, 60, 70, 80}},
		{[]api.Dirty{{Page: 1, LSN: 1}, {Page: 2, LSN: 1}, {Page: 3, LSN: 1}, {Page: 4, LSN: 1}}, 99, []int{4, 3, 2, 1}, nil},
		{[]api.Dirty{{Page: 2, LSN: 31}, {Page: 4, LSN: 11}}, 0, []int{4, 2}, []int{50, 80}},
		{[]api.Dirty{{Page: 2, LSN: 80}, {Page: 3, LSN: 60}}, 60, []int{3, 2}, []int{80}},
		{[]api.Dirty{{Page: 2, LSN: 81}, {Page: 9, LSN: 1}, {Page: 0, LSN: 1}}, 0, nil, nil},
	} {
		var asked []int
		tells := redo.Redo(l, x.dirty, func(page int) int { asked = append(asked, page); return x.lsn })
		if !slices.Equal(asked, x.asked) || !slices.Equal(tells, x.tells) {
			t.Errorf("%v at %d: asked %v, tells %v; want %v, %v", x.dirty, x.lsn, asked, tells, x.asked, x.tells)
		}
	}
}

// TestMixed: the newest update goes first, whosever it is; who has none left ends when its turn comes.
func TestMixed(t *testing.T) { // 6.4, 6.7
	l := []redo.Line{
		begin(1, 1), begin(2, 2), update(10, 1, 1, 5, "a"), update(20, 2, 2, 5, "b"), begin(25, 3), update(30, 1, 10, 6, "c"),
		update(40, 3, 25, 7, "d"), commit(50, 3, 40), update(60, 2, 20, 5, "e"), abort(70, 1, 30), begin(80, 4),
	}
	txns := []api.Txn{back(1, 70), run(2, 60), done(3, 50), run(4, 80)}
	want := []api.Rec{
		ends(4), undoes(2, 5, "e", 20), undoes(1, 6, "c", 10), undoes(2, 5, "b", 2), undoes(1, 5, "a", 1), ends(2), ends(1),
	}
	writes(t, l, txns, want...)
	slices.Reverse(txns)
	writes(t, l, txns, want...)
	writes(t, l, []api.Txn{run(2, 60)}, undoes(2, 5, "e", 20), undoes(2, 5, "b", 2), ends(2))
	writes(t, l, []api.Txn{done(2, 60), done(3, 50)})
	writes(t, l, []api.Txn{run(3, 50)}, undoes(3, 7, "d", 25), ends(3))
}

// TestUndoFields: a compensation has of its update what it needs, and nothing else.
func TestUndoFields(t *testing.T) { // 6.4
	full := api.Rec{
		Kind: api.RUpdate, Txn: 6, Prev: 3, Next: 99, Page: 8, Off: 70, Before: []byte("old one"), After: []byte("new"),
		Txns: []api.Txn{run(1, 1)}, Dirty: []api.Dirty{{Page: 1, LSN: 1}}, Count: 5,
	}
	for _, state := range []int{api.TRun, api.TUndo, 0, -1, 4} {
		txns := []api.Txn{{ID: 6, Last: 9, State: state}}
		writes(t, []redo.Line{begin(3, 6), {LSN: 9, Rec: full}}, txns, api.Rec{Kind: api.RClr, Txn: 6, Page: 8, Off: 70, After: []byte("old one"), Next: 3}, ends(6))
	}
	for _, before := range [][]byte{nil, {}} {
		full.Before = before
		writes(t, []redo.Line{begin(3, 6), {LSN: 9, Rec: full}}, []api.Txn{run(6, 9)}, api.Rec{Kind: api.RClr, Txn: 6, Page: 8, Off: 70, Next: 3}, ends(6))
	}
}

// TestAtOnce: who comes to 0 or below ends ahead of everything else.
func TestAtOnce(t *testing.T) { // 6.4
	l := []redo.Line{update(10, 1, 0, 1, "a"), update(20, 2, -7, 2, "b"), update(30, 3, 10, 3, "c"), begin(40, 4)}
	txns := []api.Txn{run(9, 0), run(1, 10), done(7, -1), run(2, 20), back(5, -3), run(3, 30), run(4, 40), {ID: 8}, run(9, 0)}
	writes(t, l, txns, ends(9), ends(5), ends(8), ends(9),
		ends(4), undoes(3, 3, "c", 10), undoes(2, 2, "b", -7), ends(2),
		undoes(1, 1, "a", 0), ends(1), undoes(1, 1, "a", 0), ends(3))
}

// TestCompensated: what a compensation stands for is left alone; it leads on to what is older.
func TestCompensated(t *testing.T) { // 6.4, 6.7
	l := []redo.Line{
		begin(1, 1), update(10, 1, 1, 5, "a"), update(20, 1, 10, 5, "b"), update(30, 1, 20, 5, "c"),
		clr(40, 1, 30, 5, 20), clr(50, 1, 40, 5, 10), update(60, 1, 50, 5, "d"), abort(70, 1, 60), clr(80, 1, 70, 5, 50),
	}
	writes(t, l[:5], []api.Txn{run(1, 40)}, undoes(1, 5, "b", 10), undoes(1, 5, "a", 1), ends(1))
	writes(t, l[:6], []api.Txn{run(1, 50)}, undoes(1, 5, "a", 1), ends(1))
	writes(t, l[:8], []api.Txn{back(1, 70)}, undoes(1, 5, "d", 50), undoes(1, 5, "a", 1), ends(1))
	writes(t, l, []api.Txn{back(1, 80)}, undoes(1, 5, "a", 1), ends(1))
	all := append(l, clr(90, 1, 80, 5, 1))
	writes(t, all, []api.Txn{back(1, 90)}, ends(1))
	writes(t, append(all, end(95, 1, 90)), []api.Txn{run(1, 95)}, ends(1))
	writes(t, []redo.Line{clr(40, 1, 30, 5, 0)}, []api.Txn{run(1, 40)}, ends(1))
}

// TestLinks: a link that goes round, forward or out of the log ends its transaction, and no other.
func TestLinks(t *testing.T) { // 6.4, 6.8
	other := []redo.Line{begin(1, 2), update(15, 2, 1, 9, "z")}
	rest := []api.Rec{undoes(2, 9, "z", 1), ends(2)}
	for _, to := range []int{20, 21, 30, 31, 40, 99, math.MaxInt, 0, -1, math.MinInt} {
		l := append(slices.Clone(other), update(20, 1, to, 5, "a"), update(30, 1, 20, 5, "b"))
		want := []api.Rec{undoes(1, 5, "b", 20), undoes(1, 5, "a", to), ends(1)}
		writes(t, l, []api.Txn{run(1, 30), run(2, 15)}, append(want, rest...)...)

		for _, kind := range []int{api.RBegin, api.RCommit, api.RAbort, api.REnd, api.RCheck, 0, 77} {
			l[2] = redo.Line{LSN: 20, Rec: api.Rec{Kind: kind, Txn: 1, Prev: to, Next: 15}}
			want = []api.Rec{undoes(1, 5, "b", 20), ends(1)}
			writes(t, l, []api.Txn{run(1, 30), run(2, 15)}, append(want, rest...)...)
		}

		l[2] = clr(20, 1, 15, 5, to)
		writes(t, l, []api.Txn{run(1, 30), run(2, 15)}, append(want, rest...)...)
	}
	for _, to := range []int{2, 14, 16, 19} { // not in the log: this ends when its turn comes
		l := append(slices.Clone(other), update(20, 1, to, 5, "a"))
		want := []api.Rec{undoes(1, 5, "a", to), undoes(2, 9, "z", 1), ends(1), ends(2)}
		if to > 15 {
			want = []api.Rec{undoes(1, 5, "a", to), ends(1), undoes(2, 9, "z", 1), ends(2)}
		}
		writes(t, l, []api.Txn{run(1, 20), run(2, 15)}, want...)
	}
	for _, last := range []int{2, 14, 16, 99, math.MaxInt} {
		want := []api.Rec{ends(1), undoes(2, 9, "z", 1), ends(2)}
		if last < 15 {
			want = []api.Rec{undoes(2, 9, "z", 1), ends(1), ends(2)}
		}
		writes(t, other, []api.Txn{run(2, 15), run(1, last)}, want...)
	}
}

// TestWhosever: of several with one next LSN that with the least ID goes first; the record is looked at as it stands.
func TestWhosever(t *testing.T) { // 6.4
	l := []redo.Line{begin(1, 3), update(10, 3, 1, 5, "a"), begin(20, 6), abort(30, 7, 10)}
	writes(t, l, []api.Txn{run(9, 10), run(4, 10), run(6, 10)},
		undoes(3, 5, "a", 1), undoes(3, 5, "a", 1), undoes(3, 5, "a", 1), ends(4), ends(6), ends(9))
	writes(t, l, []api.Txn{run(2, 30), run(-1, 20), run(1, 20)}, ends(-1), ends(1), undoes(3, 5, "a", 1), ends(2))
	writes(t, l, []api.Txn{run(2, 10), run(2, 10), run(2, 1)},
		undoes(3, 5, "a", 1), undoes(3, 5, "a", 1), ends(2), ends(2), ends(2))
}

func TestNext(t *testing.T) { // 6.5
	l := []redo.Line{
		begin(1, 1), begin(2, 2), update(10, 1, 1, 5, "a"), check(20, 0, []api.Txn{run(1, 10), run(8, 3)}, nil), end(30, 2, 2),
		clr(40, 3, 0, 5, 0), begin(50, -4), commit(60, 3, 40),
	}
	for id, want := range map[int]int{1: 10, 2: 30, 3: 60, 4: 0, 8: 0, 0: 20, -4: 50, -1: 0, math.MaxInt: 0, math.MinInt: 0} {
		if got := redo.Next(l, id); got != want {
			t.Errorf("Next(l, %d) = %d, want %d", id, got, want)
		}
	}
	for n := range l {
		if got := redo.Next(l[:n+1], l[n].Rec.Txn); got != l[n].LSN {
			t.Errorf("Next of the last record is %d, want %d", got, l[n].LSN)
		}
	}
}
