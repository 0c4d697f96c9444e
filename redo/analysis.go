package redo

import (
	"slices"

	"palimpsest/api"
)

// behindCheckpoint takes what the last checkpoint knew, and tells the records behind it: all of them, if there is none.
func (r *restart) behindCheckpoint() []Line {
	for i, x := range slices.Backward(r.log) {
		if x.Rec.Kind != api.RCheck {
			continue
		}
		for _, t := range x.Rec.Txns {
			r.txns[t.ID] = t
		}
		r.soilAll(x.Rec.Dirty)
		r.commits = x.Rec.Count
		return r.log[i+1:]
	}
	return r.log
}

// learn takes what one record tells.
func (r *restart) learn(x Line) {
	if x.Rec.Txn > 0 {
		r.follow(x)
	}
	if !changesPage(x.Rec) {
		return
	}
	if _, dirty := r.dirty[x.Rec.Page]; !dirty {
		r.dirty[x.Rec.Page] = x.LSN
	}
}

// follow brings the table up to a record of a transaction. One that is being undone stays so: compensations don't make it run again.
func (r *restart) follow(x Line) {
	id := x.Rec.Txn
	t, known := r.txns[id]
	if !known {
		t = api.Txn{ID: id, State: api.TRun}
	}
	t.Last = x.LSN
	switch x.Rec.Kind {
	case api.RCommit:
		t.State = api.TDone
		r.commits++
	case api.RAbort:
		t.State = api.TUndo
	case api.REnd:
		delete(r.txns, id)
		return
	}
	r.txns[id] = t
}

// soilAll takes a list of dirty pages. A page that it names twice is dirty from the earlier LSN on.
func (r *restart) soilAll(l []api.Dirty) {
	for _, d := range l {
		if from, dirty := r.dirty[d.Page]; !dirty || d.LSN < from {
			r.dirty[d.Page] = d.LSN
		}
	}
}
