// Package patch makes pages of a store what they shall be. The layers that keep things in pages lean on it: they tell whole pages, and the log is told no more than what changes.
package patch

import (
	"palimpsest/api"
	"palimpsest/store"
)

// Page makes b the bytes of page p, by one Write from the first byte that changes to the last; by none, if none does.
func Page(s *store.Store, t, p int, b []byte) api.Errno {
	was, e := s.Read(p, 0, api.PageData)
	if e != api.OK {
		return e
	}
	if len(b) != len(was) {
		return api.ErrArg
	}
	from, to := 0, len(b)
	for from < to && was[from] == b[from] {
		from++
	}
	for from < to && was[to-1] == b[to-1] {
		to--
	}
	if from == to {
		return api.OK
	}
	return s.Write(t, p, from, b[from:to])
}
