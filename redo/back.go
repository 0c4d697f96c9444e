package redo

import (
	"container/heap"

	"palimpsest/api"
)

// A loser is a transaction that has to be undone, and the LSN at which it goes on.
type loser struct {
	id, next int
}

// losers is a heap: the first is the one whose turn it is. The newest change goes first, whosever it is, so that bytes that several changed become what they were.
type losers []loser

// Len tells how many there are.
func (l losers) Len() int {
	return len(l)
}

// Less tells whether it is the turn of i ahead of that of j.
func (l losers) Less(i, j int) bool {
	if l[i].next != l[j].next {
		return l[i].next > l[j].next
	}
	return l[i].id < l[j].id
}

// Swap lets two change places.
func (l losers) Swap(i, j int) {
	l[i], l[j] = l[j], l[i]
}

// Push is for the heap alone.
func (l *losers) Push(x any) {
	*l = append(*l, x.(loser))
}

// Pop is for the heap alone.
func (l *losers) Pop() any {
	last := len(*l) - 1
	x := (*l)[last]
	*l = (*l)[:last]
	return x
}

// lose takes those that did not commit. One that has written nothing is at its end already.
func (r *restart) lose(txns []api.Txn) {
	for _, t := range txns {
		if t.State == api.TDone {
			continue
		}
		if t.Last <= 0 {
			r.end(t.ID)
			continue
		}
		heap.Push(&r.losers, loser{id: t.ID, next: t.Last})
	}
}

// back lets the first of the losers go one record back. A link that leads nowhere, round or forward leads to the end, so that each step leads down.
func (r *restart) back() {
	first := &r.losers[0]
	next := 0
	if at, there := r.find(first.next); there {
		next = r.compensate(r.log[at].Rec)
	}
	if next <= 0 || next >= first.next {
		r.end(first.id)
		heap.Pop(&r.losers)
		return
	}
	first.next = next
	heap.Fix(&r.losers, 0)
}

// compensate undoes a record, if it is an update, and tells where its transaction goes on. A compensation leads past what it has undone.
func (r *restart) compensate(x api.Rec) int {
	switch x.Kind {
	case api.RUpdate:
		before := append([]byte(nil), x.Before...)
		r.written = append(r.written, api.Rec{Kind: api.RClr, Txn: x.Txn, Page: x.Page, Off: x.Off, After: before, Next: x.Prev})
	case api.RClr:
		return x.Next
	}
	return x.Prev
}

// end writes that a transaction is undone.
func (r *restart) end(id int) {
	r.written = append(r.written, api.Rec{Kind: api.REnd, Txn: id})
}
