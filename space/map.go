package space

import (
	"slices"

	"palimpsest/api"
	"palimpsest/store"
)

// run is bytes of a page of the map, as they shall be, from the first that changes to the last; none, if none changes.
type run struct {
	m, off int
	b      []byte
}

// part tells what page m of the map tells of the first so many pages. What lies behind their bytes is nobody's.
func part(s *store.Store, m, pages int) ([]byte, api.Errno) {
	return s.Read(m, 0, min(each, pages-m*each))
}

// ones tells what makes the bytes b, with which page m of the map begins, ones.
func ones(m int, b []byte) run {
	from, to := 0, len(b)
	for from < to && b[from] == taken {
		from++
	}
	for from < to && b[to-1] == taken {
		to--
	}
	return run{m: m, off: from, b: slices.Repeat([]byte{taken}, to-from)}
}

// writeAll writes all runs. One that is refused takes back those ahead of it: what answers an error leaves nothing.
func writeAll(s *store.Store, t int, runs []run) api.Errno {
	runs = slices.DeleteFunc(runs, func(r run) bool { return len(r.b) == 0 })
	if len(runs) == 0 {
		return api.OK
	}
	mark, e := s.Save(t)
	if e != api.OK {
		return e
	}
	for _, r := range runs {
		if e := s.Write(t, r.m, r.off, r.b); e != api.OK {
			return goBack(s, t, mark, e)
		}
	}
	return api.OK
}

// goBack makes what t changed behind the mark what it was, and tells why it had to.
func goBack(s *store.Store, t, mark int, why api.Errno) api.Errno {
	if e := s.Back(t, mark); e != api.OK {
		return e
	}
	return why
}
