package store_test

import (
	"bytes"
	"testing"

	"palimpsest/api"
	"palimpsest/store"
)

// spoil writes over a list, and over its spare room.
func spoil(b []byte) {
	b = b[:cap(b)]
	for i := range b {
		b[i] ^= 0x55
	}
}

// spoilLog writes over all that Log told.
func spoilLog(s *store.Store) {
	l := s.Log()
	l = l[:cap(l)]
	for i := range l {
		r := &l[i].Rec
		spoil(r.Before)
		spoil(r.After)
		for k := range r.Txns[:cap(r.Txns)] {
			r.Txns[:cap(r.Txns)][k] = api.Txn{ID: -1}
		}
		for k := range r.Dirty[:cap(r.Dirty)] {
			r.Dirty[:cap(r.Dirty)][k] = api.Dirty{Page: -1}
		}
		l[i].LSN, r.Kind, r.Txn = -1, -1, -1
	}
}

// Rule 3: what is handed in is neither changed nor kept, nor is its spare room; what is told is new memory.
func TestMemory(t *testing.T) {
	s, _ := stand(t, 512, 3)
	x, y := begin(t, s), begin(t, s)
	room := []byte("0123456789")
	in := room[2:5]
	fine(t, s.Write(x, 0, 0, in))
	mark := save(t, s, x)
	if string(room) != "0123456789" {
		t.Errorf("what was handed in is %q", room)
	}
	spoil(in)
	fine(t, s.Write(x, 0, 1, []byte("ab")))
	fine(t, s.Write(y, 1, 0, []byte("why")))
	fine(t, s.Checkpoint())
	holds(t, s, 0, 0, "2ab")
	log := tidy(s.Log())
	txns := s.Txns()
	spoilLog(s)
	told := s.Txns()
	for i := range told[:cap(told)] {
		told[:cap(told)][i] = api.Txn{ID: -1}
	}
	b, e := s.Read(0, 0, 3)
	fine(t, e)
	spoil(b)
	holds(t, s, 0, 0, "2ab")
	logIs(t, s, log...)
	if got := s.Txns(); len(got) != 2 || got[0] != txns[0] || got[1] != txns[1] {
		t.Error(got, txns)
	}
	fine(t, s.Back(x, mark))
	holds(t, s, 0, 0, "234")
	fine(t, s.Rollback(x))
	holds(t, s, 0, 0, "\x00\x00\x00")
	fine(t, s.Commit(y))
	holds(t, s, 1, 0, "why")
}

// Rule 7 of the language: no two lists of one answer share memory.
func TestListsOfLog(t *testing.T) {
	s, _ := stand(t, 512, 3)
	x := begin(t, s)
	fine(t, s.Write(x, 0, 0, []byte("abc")))
	fine(t, s.Write(x, 0, 0, []byte("def")))
	l := s.Log()
	spoil(l[1].Rec.After)
	spoil(l[1].Rec.Before)
	if !bytes.Equal(l[2].Rec.Before, []byte("abc")) || !bytes.Equal(l[2].Rec.After, []byte("def")) {
		t.Error(l[2])
	}
}
