package store

import (
	"palimpsest/api"
	"palimpsest/rec"
)

// Checkpoint drives all changes out of memory, so that the log ahead of it is needed no more but for going back.
func (s *Store) Checkpoint() api.Errno {
	if s.dead {
		return api.ErrDead
	}
	return s.checkpoint()
}

func (s *Store) checkpoint() api.Errno {
	r := api.Rec{Kind: api.RCheck, Txns: s.Txns(), Dirty: s.pool.Dirty(), Count: s.commits}
	need := rec.Size(r) + s.reserved()
	if len(s.open) > 0 {
		need += spare
	}
	if s.log.Room() < need {
		return api.ErrFull
	}
	start := s.log.Tail()
	if len(s.open) > 0 {
		start = s.oldest()
	}
	if _, e := s.tell(r); e != api.OK {
		return e
	}
	if e := s.flush(); e != api.OK {
		return e
	}
	return s.startAt(start)
}

// startAt lets the log start there. The pages come first, then the master, then the log's room: whatever fails between them, the log has all that the pages lack.
func (s *Store) startAt(start int) api.Errno {
	for _, x := range s.pool.Dirty() {
		if e := s.heed(s.pool.Evict(x.Page)); e != api.OK {
			return e
		}
	}
	m := master{number: s.master + 1, start: start, commits: s.commitsAhead(start), next: s.next}
	if e := s.heed(s.d.Write(m.number%masters, m.sector())); e != api.OK {
		return e
	}
	if e := s.heed(s.d.Sync()); e != api.OK {
		return e
	}
	s.master = m.number
	return s.log.Trim(start)
}

// commitsAhead tells how many commits there were ahead of a position of the log.
func (s *Store) commitsAhead(start int) int {
	n := s.commits
	for _, x := range s.lines() {
		if x.LSN > start && x.Rec.Kind == api.RCommit {
			n--
		}
	}
	return n
}
