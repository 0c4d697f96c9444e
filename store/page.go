package store

import (
	"palimpsest/api"
)

// A page's LSN stands ahead of its data.
const ahead = numberSize

// has tells whether there is a page p, with n bytes from off on.
func (s *Store) has(p, off, n int) bool {
	if p < 0 || p >= s.pages {
		return false
	}
	return off >= 0 && n >= 0 && n <= api.PageData-off
}

// get tells n bytes of page p from off on.
func (s *Store) get(p, off, n int) ([]byte, api.Errno) {
	b, e := s.pool.Get(p)
	if s.heed(e) != api.OK {
		return nil, e
	}
	data := make([]byte, n)
	copy(data, b[ahead+off:])
	return data, api.OK
}

// lsn tells up to which record page p has its changes.
func (s *Store) lsn(p int) (int, api.Errno) {
	b, e := s.pool.Get(p)
	if s.heed(e) != api.OK {
		return 0, e
	}
	n, _ := number(b)
	return n, api.OK
}

// change makes the page of a record what the record says. Only a log that no store wrote has one whose bytes lie in no page: that one changes nothing.
func (s *Store) change(r api.Rec, lsn int) api.Errno {
	if !s.has(r.Page, r.Off, len(r.After)) {
		return api.OK
	}
	b, e := s.pool.Get(r.Page)
	if s.heed(e) != api.OK {
		return e
	}
	putNumber(b, lsn)
	copy(b[ahead+r.Off:], r.After)
	return s.heed(s.pool.Put(r.Page, b, lsn))
}
