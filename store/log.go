package store

import (
	"palimpsest/api"
	"palimpsest/rec"
	"palimpsest/redo"
)

const (
	ending = 192  // bytes that a transaction needs to end: an abort or a commit, and an end
	spare  = 1120 // bytes that a checkpoint leaves to others while a transaction is open: as many as one needs when none is
)

// tell puts a record behind the log, and tells its LSN.
func (s *Store) tell(r api.Rec) (int, api.Errno) {
	lsn := s.log.Tail() + 1
	if e := s.log.Append(rec.Encode(r)); e != api.OK {
		return 0, e
	}
	return lsn, api.OK
}

// flush makes the log last.
func (s *Store) flush() api.Errno {
	return s.heed(s.log.Flush())
}

// lines decodes the log.
func (s *Store) lines() []redo.Line {
	var l []redo.Line
	at := s.log.Start()
	rest, _ := s.log.Read(at, s.log.Tail()-at)
	for len(rest) > 0 {
		r, size, ok := rec.Decode(rest)
		if !ok {
			break
		}
		l = append(l, redo.Line{LSN: at + 1, Rec: r})
		at += size
		rest = rest[size:]
	}
	return l
}

// Room tells how many bytes of the log are left for new updates.
func (s *Store) Room() int {
	return max(0, s.log.Room()-s.reserved()-api.Keep)
}

// reserved tells how many bytes of the log the open transactions need to go back and end, so that neither is ever refused.
func (s *Store) reserved() int {
	n := 0
	for _, x := range s.open {
		n += ending
		for _, u := range x.updates {
			n += rec.Size(u.clr)
		}
	}
	return n
}

// makeRoom sees to it that n more bytes of the log can be taken or reserved, by a checkpoint if need be.
func (s *Store) makeRoom(n int) api.Errno {
	if s.fits(n) {
		return api.OK
	}
	if !s.pinned() {
		if e := s.checkpoint(); e != api.OK {
			return e
		}
	}
	if !s.fits(n) {
		return api.ErrFull
	}
	return api.OK
}

func (s *Store) fits(n int) bool {
	return s.log.Room() >= n+s.reserved()+api.Keep
}

// pinned tells whether an open transaction holds the log's start where it is, so that a checkpoint would move nothing.
func (s *Store) pinned() bool {
	return len(s.open) > 0 && s.oldest() == s.log.Start()
}

// oldest tells the position where the first of the open transactions began; they lie by rising number, and so by rising begin.
func (s *Store) oldest() int {
	return s.open[0].begin - 1
}
