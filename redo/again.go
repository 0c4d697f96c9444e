package redo

import (
	"maps"
	"slices"
)

// fromOldest tells the records from the least LSN on from which a page is dirty: what stands ahead of it is in all pages.
func (r *restart) fromOldest() []Line {
	if len(r.dirty) == 0 {
		return nil
	}
	at, _ := r.find(slices.Min(slices.Collect(maps.Values(r.dirty))))
	return r.log[at:]
}

// again takes a record into what is redone, if its page lacks it. A page is asked only if it may: to ask means to read it.
func (r *restart) again(x Line) {
	page := x.Rec.Page
	from, dirty := r.dirty[page]
	if !changesPage(x.Rec) || !dirty || from > x.LSN {
		return
	}
	if r.lsnOf(page) >= x.LSN {
		return
	}
	r.has[page] = x.LSN
	r.redone = append(r.redone, x.LSN)
}

func (r *restart) lsnOf(page int) int {
	lsn, asked := r.has[page]
	if !asked {
		lsn = r.ask(page)
		r.has[page] = lsn
	}
	return lsn
}
