package space

import (
	"slices"

	"palimpsest/api"
	"palimpsest/store"
)

// Give makes page p free. Nobody else can take it before t has ended: t might go back.
func Give(s *store.Store, t, p int) api.Errno {
	return GiveAll(s, t, []int{p})
}

// GiveAll makes all pages of l free, or none.
func GiveAll(s *store.Store, t int, l []int) api.Errno {
	l = slices.Clone(l)
	slices.Sort(l)
	for i, p := range l {
		if !mayBeGiven(s, p) || i > 0 && l[i-1] == p {
			return api.ErrArg
		}
	}
	runs, e := runsWithout(s, l)
	if e != api.OK {
		return e
	}
	return writeAll(s, t, runs)
}

// mayBeGiven tells whether p is a page, and none of the map.
func mayBeGiven(s *store.Store, p int) bool {
	return p >= Maps(s.Pages()) && p < s.Pages()
}

// runsWithout tells what becomes of the map when the pages of l, by rising number, are given: one run for each of its pages that has some of them.
func runsWithout(s *store.Store, l []int) ([]run, api.Errno) {
	var runs []run
	for m := range Maps(s.Pages()) {
		n := 0
		for n < len(l) && l[n]/each == m {
			n++
		}
		if n == 0 {
			continue
		}
		r, e := without(s, l[:n])
		if e != api.OK {
			return nil, e
		}
		runs, l = append(runs, r), l[n:]
	}
	return runs, api.OK
}

// without tells what becomes of a page of the map when the pages of l, by rising number and all in it, are given: the run from the first one's byte to the last one's. ErrArg, if one of them is free.
func without(s *store.Store, l []int) (run, api.Errno) {
	first, last := l[0], l[len(l)-1]
	b, e := s.Read(first/each, first%each, last-first+1)
	if e != api.OK {
		return run{}, e
	}
	for _, p := range l {
		if b[p-first] == free {
			return run{}, api.ErrArg
		}
		b[p-first] = free
	}
	return run{m: first / each, off: first % each, b: b}, api.OK
}
