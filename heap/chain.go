package heap

import (
	"palimpsest/api"
	"palimpsest/slot"
	"palimpsest/store"
)

// page is a page of a chain, and its bytes.
type page struct {
	number int
	data   []byte
}

// find walks along the chain from head on to the first page that suits. If none does, it tells the last one, and false. What the chain is behind a page that was found is not looked at.
func find(s *store.Store, head int, suits func(page) bool) (page, bool, api.Errno) {
	var p page
	var e api.Errno
	next, seen := head, map[int]struct{}{}
	for {
		if _, twice := seen[next]; twice {
			return page{}, false, api.ErrBad
		}
		seen[next] = struct{}{}
		if p, e = read(s, next); e != api.OK {
			return page{}, false, e
		}
		if suits(p) {
			goto found
		}
		if next = slot.Next(p.data); next == 0 {
			return p, false, api.OK
		}
	}
found:
	return p, true, api.OK
}

// findPage tells a page by its number, if it is one of the chain.
func findPage(s *store.Store, head, number int) (page, api.Errno) {
	p, ok, e := find(s, head, func(p page) bool { return p.number == number })
	if e != api.OK {
		return page{}, e
	}
	if !ok {
		return page{}, api.ErrNone
	}
	return p, api.OK
}

// visit walks along the whole chain.
func visit(s *store.Store, head int, see func(page)) api.Errno {
	_, _, e := find(s, head, func(p page) bool {
		see(p)
		return false
	})
	return e
}

// read tells a page of a chain.
func read(s *store.Store, number int) (page, api.Errno) {
	b, e := s.Read(number, 0, api.PageData)
	if e == api.ErrArg || e == api.OK && !slot.Check(b) {
		return page{}, api.ErrBad
	}
	if e != api.OK {
		return page{}, e
	}
	return page{number: number, data: b}, api.OK
}
