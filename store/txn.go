package store

import (
	"bytes"
	"slices"

	"palimpsest/api"
	"palimpsest/rec"
	"palimpsest/redo"
)

// txn is a transaction that is open.
type txn struct {
	id      int
	begin   int // the LSN of its first record
	last    int // and of its last
	updates []update
}

// update is one that is not undone, and the record that would undo it.
type update struct {
	lsn int
	clr api.Rec
}

// Begin begins a transaction, and tells its number.
func (s *Store) Begin() (int, api.Errno) {
	if s.dead {
		return 0, api.ErrDead
	}
	r := api.Rec{Kind: api.RBegin, Txn: s.next}
	if e := s.makeRoom(rec.Size(r) + ending); e != api.OK {
		return 0, e
	}
	lsn, e := s.tell(r)
	if e != api.OK {
		return 0, e
	}
	s.open = append(s.open, &txn{id: s.next, begin: lsn, last: lsn})
	s.next++
	return r.Txn, api.OK
}

// Write makes b the bytes of page p from off on, for transaction t.
func (s *Store) Write(t, p, off int, b []byte) api.Errno {
	x, e := s.find(t)
	if e != api.OK {
		return e
	}
	if !s.has(p, off, len(b)) {
		return api.ErrArg
	}
	if s.busy(x, p, off, len(b)) {
		return api.ErrBusy
	}
	if len(b) == 0 {
		return api.OK
	}
	before, e := s.get(p, off, len(b))
	if e != api.OK || bytes.Equal(before, b) {
		return e
	}
	return s.update(x, api.Rec{Kind: api.RUpdate, Page: p, Off: off, Before: before, After: b})
}

// Commit makes what transaction t did last.
func (s *Store) Commit(t int) api.Errno {
	x, e := s.find(t)
	if e != api.OK {
		return e
	}
	if e := s.tellOf(x, api.Rec{Kind: api.RCommit}); e != api.OK {
		return e
	}
	s.commits++
	if e := s.flush(); e != api.OK {
		return e
	}
	return s.end(x)
}

// Rollback makes every byte that transaction t changed what it was.
func (s *Store) Rollback(t int) api.Errno {
	x, e := s.find(t)
	if e != api.OK {
		return e
	}
	if e = s.tellOf(x, api.Rec{Kind: api.RAbort}); e == api.OK {
		goto undo
	}
	return e
undo:
	if len(x.updates) == 0 {
		goto end
	}
	if e = s.undoNewest(x); e == api.OK {
		goto undo
	}
	return e
end:
	return s.end(x)
}

// Save tells a mark to which transaction t can go back.
func (s *Store) Save(t int) (int, api.Errno) {
	x, e := s.find(t)
	if e != api.OK {
		return 0, e
	}
	return x.last, api.OK
}

// Back makes every byte that transaction t changed behind the mark what it was there.
func (s *Store) Back(t, mark int) api.Errno {
	x, e := s.find(t)
	if e != api.OK {
		return e
	}
	if !s.isOf(x, mark) {
		return api.ErrArg
	}
undo:
	if !x.changedBehind(mark) {
		goto there
	}
	if e = s.undoNewest(x); e == api.OK {
		goto undo
	}
there:
	return e
}

// find tells the open transaction with that number.
func (s *Store) find(t int) (*txn, api.Errno) {
	if s.dead {
		return nil, api.ErrDead
	}
	for _, x := range s.open {
		if x.id == t {
			return x, api.OK
		}
	}
	return nil, api.ErrNone
}

// isOf tells whether mark is the LSN of a record of x. The log is gone through from its start: the bytes of a page may look like a record, so one may not begin to read anywhere.
func (s *Store) isOf(x *txn, mark int) bool {
	return slices.ContainsFunc(s.lines(), func(l redo.Line) bool { return l.LSN == mark && l.Rec.Txn == x.id })
}

// busy tells whether one of these bytes lies in an update of another one than x: what that one would write to undo it would undo this, too.
func (s *Store) busy(x *txn, p, off, n int) bool {
	for _, y := range s.open {
		if y != x && slices.ContainsFunc(y.updates, func(u update) bool { return u.meets(p, off, n) }) {
			return true
		}
	}
	return false
}

func (u update) meets(p, off, n int) bool {
	low, high := u.clr.Off, u.clr.Off+len(u.clr.After)
	return p == u.clr.Page && max(low, off) < min(high, off+n)
}

// update tells of a change and does it, if the log has room for undoing it, too.
func (s *Store) update(x *txn, r api.Rec) api.Errno {
	clr := api.Rec{Kind: api.RClr, Next: x.last, Page: r.Page, Off: r.Off, After: r.Before}
	if e := s.makeRoom(rec.Size(r) + rec.Size(clr)); e != api.OK {
		return e
	}
	if e := s.tellOf(x, r); e != api.OK {
		return e
	}
	x.updates = append(x.updates, update{lsn: x.last, clr: clr})
	return s.change(r, x.last)
}

// undoNewest undoes the newest update of x that is not undone.
func (s *Store) undoNewest(x *txn) api.Errno {
	k := len(x.updates) - 1
	u := x.updates[k]
	if e := s.tellOf(x, u.clr); e != api.OK {
		return e
	}
	x.updates = slices.Delete(x.updates, k, k+1)
	return s.change(u.clr, x.last)
}

// changedBehind tells whether x has an update behind mark that is not undone.
func (x *txn) changedBehind(mark int) bool {
	k := len(x.updates)
	return k > 0 && x.updates[k-1].lsn > mark
}

// end closes x.
func (s *Store) end(x *txn) api.Errno {
	if e := s.tellOf(x, api.Rec{Kind: api.REnd}); e != api.OK {
		return e
	}
	s.open = slices.DeleteFunc(s.open, func(y *txn) bool { return y == x })
	return api.OK
}

// tellOf puts a record of x behind the log, and behind its others.
func (s *Store) tellOf(x *txn, r api.Rec) api.Errno {
	r.Txn, r.Prev = x.id, x.last
	lsn, e := s.tell(r)
	if e == api.OK {
		x.last = lsn
	}
	return e
}
