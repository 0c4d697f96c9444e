package redo_test

import (
	"bytes"
	"reflect"
	"slices"
	"testing"

	"palimpsest/api"
	"palimpsest/redo"
)

const spare = 5

// roomy gives a list spare room, filled so that a write there is seen.
func roomy[T any](l []T, fill T) []T {
	room := slices.Clone(l)
	for range spare {
		room = append(room, fill)
	}
	return room[:len(l)]
}

// whole tells a list with its spare room.
func whole[T any](l []T) []T {
	return l[:cap(l)]
}

// given is a log with room behind all of its lists.
func given() []redo.Line {
	l := []redo.Line{
		check(5, 2, roomy([]api.Txn{run(2, 4), run(1, 3)}, run(77, 77)), roomy([]api.Dirty{{Page: 9, LSN: 4}, {Page: 8, LSN: 3}}, api.Dirty{Page: 77})),
		update(10, 1, 3, 8, "a"), update(20, 2, 4, 7, "b"), update(30, 1, 10, 9, "c"), clr(40, 1, 30, 9, 10), commit(50, 3, 0),
	}
	for i := range l {
		l[i].Rec.Before = roomy(l[i].Rec.Before, 77)
		l[i].Rec.After = roomy(l[i].Rec.After, 77)
	}
	return roomy(l, begin(77, 77))
}

// TestHandedIn: no call changes what it is given, nor the spare room behind it.
func TestHandedIn(t *testing.T) { // 6.8
	l := given()
	txns := roomy([]api.Txn{run(2, 20), done(3, 50), run(1, 40), run(0, 0)}, run(77, 77))
	dirty := roomy([]api.Dirty{{Page: 9, LSN: 4}, {Page: 7, LSN: 20}, {Page: 8, LSN: 3}}, api.Dirty{Page: 77})
	wasTxns, wasDirty := slices.Clone(whole(txns)), slices.Clone(whole(dirty))
	redo.Analyze(l)
	redo.Redo(l, dirty, nil)
	redo.Undo(l, txns)
	redo.Next(l, 1)
	was := given()
	if !reflect.DeepEqual(whole(l), whole(was)) {
		t.Error("the log is changed")
	}
	for i, x := range l {
		same := bytes.Equal(whole(x.Rec.Before), whole(was[i].Rec.Before)) && bytes.Equal(whole(x.Rec.After), whole(was[i].Rec.After))
		if !same || !slices.Equal(whole(x.Rec.Txns), whole(was[i].Rec.Txns)) || !slices.Equal(whole(x.Rec.Dirty), whole(was[i].Rec.Dirty)) {
			t.Error("spare room is changed, of record", i)
		}
	}
	if !slices.Equal(whole(txns), wasTxns) || !slices.Equal(whole(dirty), wasDirty) {
		t.Error("a list is changed")
	}
}

// TestAnswers: what is told is new memory, its spare room too: to write there changes neither what was handed in nor another answer.
func TestAnswers(t *testing.T) { // 6.8
	l := given()
	txns, dirty, _ := redo.Analyze(l)
	for i := range whole(txns) {
		whole(txns)[i] = run(66, 66)
	}
	for i := range whole(dirty) {
		whole(dirty)[i] = api.Dirty{Page: 66}
	}
	analysis(t, l, []api.Txn{run(1, 40), run(2, 20), done(3, 50)}, []api.Dirty{{Page: 7, LSN: 20}, {Page: 8, LSN: 3}, {Page: 9, LSN: 4}}, 3)

	dirty = roomy([]api.Dirty{{Page: 8, LSN: 1}, {Page: 9, LSN: 1}}, api.Dirty{Page: 77})
	lsns := redo.Redo(l, dirty, nil)
	for i := range whole(lsns) {
		whole(lsns)[i] = 66
	}
	redoes(t, l, dirty, nil, 10, 30, 40)

	txns = []api.Txn{run(1, 30), run(2, 20), run(1, 30)}
	want := redo.Undo(l, txns)
	got := redo.Undo(l, txns)
	for i, r := range got {
		for _, list := range [][]byte{whole(r.Before), whole(r.After)} {
			for k := range list {
				list[k] = 66
			}
		}
		if i+1 < len(got) && !sameRecs(got[i+1:], want[i+1:]) {
			t.Error("two records of one answer share memory, from", i)
		}
	}
	for i := range whole(got) {
		whole(got)[i] = ends(66)
	}
	writes(t, l, txns, want...)
	if !reflect.DeepEqual(whole(l), whole(given())) {
		t.Error("an answer shares memory with the log")
	}
}
