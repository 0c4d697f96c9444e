package store

import (
	"math"
	"slices"

	"palimpsest/api"
	"palimpsest/redo"
)

// found is what the passes of a restart lean on: the log as the crash left it, and what analysis found there.
type found struct {
	log   []redo.Line
	txns  []api.Txn
	dirty []api.Dirty
}

// restart makes the pages what the commits made them, in three passes over the log. Behind them nothing of the log is needed any more.
func (s *Store) restart() api.Errno {
	var e api.Errno
	f := found{log: s.lines()}
	goto analysis
analysis:
	s.analyze(&f)
	goto redo
redo:
	if e = s.doAgain(f); e == api.OK {
		goto undo
	}
	return e
undo:
	if e = s.undoLosers(f); e == api.OK {
		goto end
	}
	return e
end:
	if e = s.endDone(f); e == api.OK {
		goto start
	}
	return e
start:
	return s.startAt(s.log.End())
}

// analyze finds who was under way, which pages may lack something, how many commits there were, and the next transaction's number. A checkpoint counts the commits ahead of it; without one the master does.
func (s *Store) analyze(f *found) {
	isCheck := func(x redo.Line) bool { return x.Rec.Kind == api.RCheck }
	if slices.ContainsFunc(f.log, isCheck) {
		s.commits = 0
	}
	var commits int
	f.txns, f.dirty, commits = redo.Analyze(f.log)
	s.commits += commits
	for _, x := range f.log {
		s.next = max(s.next, x.Rec.Txn+1)
		for _, t := range x.Rec.Txns {
			s.next = max(s.next, t.ID+1)
		}
	}
}

// doAgain does what the pages lack.
func (s *Store) doAgain(f found) api.Errno {
	todo, e := s.lacking(f)
	if e != api.OK {
		return e
	}
	s.redone = len(todo)
	for _, x := range f.log {
		if len(todo) == 0 || x.LSN != todo[0] {
			continue
		}
		if e := s.change(x.Rec, x.LSN); e != api.OK {
			return e
		}
		todo = todo[1:]
	}
	return api.OK
}

// lacking tells the LSNs of what the pages lack. A page that there is not lacks nothing.
func (s *Store) lacking(f found) ([]int, api.Errno) {
	failed := api.OK
	todo := redo.Redo(f.log, f.dirty, func(p int) int {
		if !s.has(p, 0, 0) || failed != api.OK {
			return math.MaxInt
		}
		n, e := s.lsn(p)
		failed = e
		return n
	})
	return todo, failed
}

// undoLosers undoes what was not committed.
func (s *Store) undoLosers(f found) api.Errno {
	last := map[int]int{}
	for _, x := range f.txns {
		last[x.ID] = x.Last
	}
	for _, r := range redo.Undo(f.log, f.txns) {
		r.Prev = last[r.Txn]
		lsn, e := s.tell(r)
		if e != api.OK {
			return e
		}
		last[r.Txn] = lsn
		if r.Kind != api.RClr {
			continue
		}
		s.undone++
		if e := s.change(r, lsn); e != api.OK {
			return e
		}
	}
	return api.OK
}

// endDone ends the transactions that committed but did not come to their end, and makes the log last.
func (s *Store) endDone(f found) api.Errno {
	for _, x := range f.txns {
		if x.State != api.TDone {
			continue
		}
		if _, e := s.tell(api.Rec{Kind: api.REnd, Txn: x.ID, Prev: x.Last}); e != api.OK {
			return e
		}
	}
	return s.flush()
}
