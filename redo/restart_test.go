package redo_test

import (
	"bytes"
	"math/rand"
	"slices"
	"testing"

	"palimpsest/api"
	"palimpsest/redo"
)

const (
	pages = 4
	size  = 6 // bytes of a page: few, so that transactions meet
)

// A sheet is a page, and the LSN of its last change.
type sheet struct {
	bytes [size]byte
	lsn   int
}

// An open transaction knows its last record, and its updates that are not undone.
type open struct {
	last, first int
	updates     []int
}

// A world is a log, pages on a device and in memory, and what they must become behind a crash.
type world struct {
	t       *testing.T
	g       *rand.Rand
	log     []redo.Line
	lasting int // records of log that a crash does not take
	device  [pages]sheet
	memory  [pages]sheet
	dirty   map[int]int
	open    map[int]*open
	next    int
	lsn     int
	commits int
	image   [pages][size]byte // what the commits so far made of the pages
	images  []image
}

// An image is what the pages are to be from the commit on whose record has that LSN.
type image struct {
	lsn   int
	pages [pages][size]byte
}

func worldOf(t *testing.T, seed int) *world {
	w := &world{t: t, g: rand.New(rand.NewSource(int64(seed))), dirty: map[int]int{}, open: map[int]*open{}, next: 1}
	w.images = []image{{}}
	return w
}

// add appends a record, behind a step of some bytes.
func (w *world) add(r api.Rec) int {
	w.lsn += 1 + w.g.Intn(9)
	w.log = append(w.log, redo.Line{LSN: w.lsn, Rec: r})
	return w.lsn
}

// change puts bytes into a page in memory, as a record at that LSN tells.
func (w *world) change(lsn int, r api.Rec) {
	if _, dirty := w.dirty[r.Page]; !dirty {
		w.dirty[r.Page] = lsn
	}
	copy(w.memory[r.Page].bytes[r.Off:], r.After)
	w.memory[r.Page].lsn = lsn
}

// evict writes a page, behind the log that tells of it.
func (w *world) evict(page int) {
	for w.lasting < len(w.log) && w.log[w.lasting].LSN <= w.memory[page].lsn {
		w.lasting++
	}
	w.device[page] = w.memory[page]
	delete(w.dirty, page)
}

func (w *world) begin() {
	lsn := w.add(api.Rec{Kind: api.RBegin, Txn: w.next})
	w.open[w.next] = &open{last: lsn, first: lsn}
	w.next++
}

// at tells the record with that LSN.
func (w *world) at(lsn int) api.Rec {
	i := slices.IndexFunc(w.log, func(x redo.Line) bool { return x.LSN == lsn })
	return w.log[i].Rec
}

// busy tells whether another open transaction has changed one of these bytes.
func (w *world) busy(id, page, off, n int) bool {
	for other, t := range w.open {
		for _, lsn := range t.updates {
			r := w.at(lsn)
			if other != id && r.Page == page && r.Off < off+n && off < r.Off+len(r.After) {
				return true
			}
		}
	}
	return false
}

func (w *world) write(id int) {
	page, off := w.g.Intn(pages), w.g.Intn(size)
	after := make([]byte, 1+w.g.Intn(size-off))
	w.g.Read(after)
	if w.busy(id, page, off, len(after)) {
		return
	}
	t := w.open[id]
	before := bytes.Clone(w.memory[page].bytes[off : off+len(after)])
	r := api.Rec{Kind: api.RUpdate, Txn: id, Prev: t.last, Page: page, Off: off, Before: before, After: after}
	t.last = w.add(r)
	t.updates = append(t.updates, t.last)
	w.change(t.last, r)
}

// back undoes the newest n updates of a transaction.
func (w *world) back(id, n int) {
	t := w.open[id]
	for range min(n, len(t.updates)) {
		u := w.at(t.updates[len(t.updates)-1])
		r := api.Rec{Kind: api.RClr, Txn: id, Prev: t.last, Next: u.Prev, Page: u.Page, Off: u.Off, After: u.Before}
		t.last = w.add(r)
		t.updates = t.updates[:len(t.updates)-1]
		w.change(t.last, r)
	}
}

// abort begins a rollback, and ends it or not.
func (w *world) abort(id int) {
	t := w.open[id]
	t.last = w.add(api.Rec{Kind: api.RAbort, Txn: id, Prev: t.last})
	w.back(id, w.g.Intn(2*len(t.updates)+1))
	if len(t.updates) == 0 {
		w.add(api.Rec{Kind: api.REnd, Txn: id, Prev: t.last})
		delete(w.open, id)
	}
}

func (w *world) commit(id int) {
	t := w.open[id]
	for _, lsn := range t.updates {
		r := w.at(lsn)
		copy(w.image[r.Page][r.Off:], w.memory[r.Page].bytes[r.Off:r.Off+len(r.After)])
	}
	t.last = w.add(api.Rec{Kind: api.RCommit, Txn: id, Prev: t.last})
	w.images = append(w.images, image{lsn: t.last, pages: w.image})
	w.commits++
	delete(w.open, id)
	if w.g.Intn(5) > 0 { // its end may be missing
		w.add(api.Rec{Kind: api.REnd, Txn: id, Prev: t.last})
	}
}

// checkpoint tells who is open and what is dirty; some pages it drives out, and it may give up what of the log nobody needs.
func (w *world) checkpoint() {
	if slices.ContainsFunc(w.unended(), func(id int) bool { return w.open[id] == nil }) {
		return // a checkpoint tells only of those that run: one whose end is missing would be lost
	}
	var c api.Rec
	c.Kind, c.Count = api.RCheck, w.commits
	need := w.lsn + 1
	for id, t := range w.open {
		c.Txns = append(c.Txns, run(id, t.last))
		need = min(need, t.first)
	}
	for page, lsn := range w.dirty {
		c.Dirty = append(c.Dirty, api.Dirty{Page: page, LSN: lsn})
		need = min(need, lsn)
	}
	w.add(c)
	w.lasting = len(w.log)
	if w.g.Intn(2) > 0 {
		n := slices.IndexFunc(w.log, func(x redo.Line) bool { return x.LSN >= need })
		w.log = w.log[n:]
		w.lasting -= n
	}
}

// unended tells whose records have no end behind them.
func (w *world) unended() []int {
	var l []int
	for _, x := range w.log {
		if x.Rec.Txn > 0 && !slices.Contains(l, x.Rec.Txn) {
			l = append(l, x.Rec.Txn)
		}
		if x.Rec.Kind == api.REnd {
			l = slices.DeleteFunc(l, func(id int) bool { return id == x.Rec.Txn })
		}
	}
	return l
}

// step lets something happen.
func (w *world) step() {
	var ids []int
	for id := range w.open {
		ids = append(ids, id)
	}
	slices.Sort(ids)
	what := w.g.Intn(24)
	switch {
	case what == 0:
		w.checkpoint()
		return
	case what < 4:
		w.evict(w.g.Intn(pages))
		return
	case len(ids) == 0 || what < 7 && len(ids) < 4:
		w.begin()
		return
	}
	id := ids[w.g.Intn(len(ids))]
	aborted := slices.ContainsFunc(w.log, func(x redo.Line) bool { return x.Rec.Kind == api.RAbort && x.Rec.Txn == id })
	switch {
	case aborted:
		w.back(id, w.g.Intn(2))
	case what < 18:
		w.write(id)
	case what < 20:
		w.back(id, w.g.Intn(3))
	case what < 21:
		w.abort(id)
	default:
		w.commit(id)
	}
}

// crash keeps of the log at least what lasts, and of the pages what the device has.
func (w *world) crash() {
	w.log = w.log[:w.lasting+w.g.Intn(len(w.log)-w.lasting+1)]
	w.lasting = len(w.log)
	w.memory = w.device
	clear(w.dirty)
	clear(w.open)
	end := 0
	if len(w.log) > 0 {
		end = w.log[len(w.log)-1].LSN
	}
	w.images = slices.DeleteFunc(w.images, func(i image) bool { return i.lsn > end })
	w.image = w.images[len(w.images)-1].pages
	w.commits = len(w.images) - 1
	w.lsn = end
}

// restart makes the three passes, and lets the device fail on the way, if most is below what there is to undo: then it tells false.
func (w *world) restart(most int) bool {
	w.t.Helper()
	txns, dirty, commits := redo.Analyze(w.log)
	if commits != w.commits {
		w.t.Fatalf("%d commits, want %d", commits, w.commits)
	}
	w.redo(dirty)
	written := redo.Undo(w.log, txns)
	w.newestFirst(txns, written)
	last := map[int]int{}
	for _, t := range txns {
		last[t.ID] = t.Last
	}
	for i, r := range written {
		if i == most {
			return false
		}
		r.Prev = last[r.Txn]
		last[r.Txn] = w.add(r)
		if r.Kind == api.RClr {
			w.change(last[r.Txn], r)
		}
		if w.g.Intn(4) == 0 {
			w.evict(w.g.Intn(pages))
		}
		w.goesOn(written[i+1:])
	}
	for _, t := range txns {
		if t.State == api.TDone {
			w.add(api.Rec{Kind: api.REnd, Txn: t.ID, Prev: t.Last})
		}
	}
	return true
}

// redo does what Redo tells, and wants it to tell nothing more then.
func (w *world) redo(dirty []api.Dirty) {
	w.t.Helper()
	lsn := func(page int) int { return w.memory[page].lsn }
	for _, at := range redo.Redo(w.log, dirty, lsn) {
		w.change(at, w.at(at))
	}
	if again := redo.Redo(w.log, dirty, lsn); len(again) != 0 {
		w.t.Fatalf("what was redone is to be redone: %v", again)
	}
}

// newestFirst wants one compensation for each update of a loser that none has undone, the newest first (6.7).
func (w *world) newestFirst(txns []api.Txn, written []api.Rec) {
	w.t.Helper()
	var left []api.Rec
	for _, t := range txns {
		if t.State == api.TDone {
			continue
		}
		var undone []int // how many of the newest updates compensations have undone, by where these lead
		for lsn := t.Last; lsn > 0; {
			r := w.at(lsn)
			if r.Kind == api.RClr {
				undone = append(undone, r.Next)
			}
			if r.Kind == api.RUpdate && !slices.Contains(undone, r.Prev) {
				left = append(left, api.Rec{Kind: api.RClr, Txn: r.Txn, Page: r.Page, Off: r.Off, After: r.Before, Next: r.Prev, Count: lsn})
			}
			lsn = r.Prev
		}
	}
	slices.SortFunc(left, func(a, b api.Rec) int { return b.Count - a.Count })
	for i := range left {
		left[i].Count = 0
	}
	told := slices.DeleteFunc(slices.Clone(written), func(r api.Rec) bool { return r.Kind != api.RClr })
	if !sameRecs(told, left) {
		w.t.Fatalf("undone is %v, want %v", told, left)
	}
}

// goesOn wants a log to which some was done to ask for the rest alone (6.6).
func (w *world) goesOn(rest []api.Rec) {
	w.t.Helper()
	txns, dirty, _ := redo.Analyze(w.log)
	if got := redo.Undo(w.log, txns); !sameRecs(got, rest) {
		w.t.Fatalf("the rest is %v, want %v", got, rest)
	}
	if got := redo.Redo(w.log, dirty, func(page int) int { return w.memory[page].lsn }); len(got) != 0 {
		w.t.Fatalf("what was done is to be redone: %v", got)
	}
}

// settled wants the pages to be what the commits made them, and that a restart has nothing more to do.
func (w *world) settled() {
	w.t.Helper()
	for page := range pages {
		if w.memory[page].bytes != w.image[page] {
			w.t.Fatalf("page %d is %v, want %v", page, w.memory[page].bytes, w.image[page])
		}
	}
	txns, _, commits := redo.Analyze(w.log)
	if len(txns) != 0 || commits != w.commits {
		w.t.Fatalf("under way are %v behind %d commits, want none, %d", txns, commits, w.commits)
	}
	for _, id := range w.known() {
		for _, r := range redo.Undo(w.log, []api.Txn{back(id, redo.Next(w.log, id))}) {
			if r.Kind != api.REnd && !w.committed(id) {
				w.t.Fatalf("of %d, which is undone, is told %v", id, r)
			}
		}
	}
}

// known tells all transactions that the log names.
func (w *world) known() []int {
	var l []int
	for _, x := range w.log {
		if x.Rec.Txn > 0 && !slices.Contains(l, x.Rec.Txn) {
			l = append(l, x.Rec.Txn)
		}
	}
	return l
}

func (w *world) committed(id int) bool {
	return slices.ContainsFunc(w.log, func(x redo.Line) bool { return x.Rec.Kind == api.RCommit && x.Rec.Txn == id })
}

// TestRestart lets transactions go on beside each other, a crash come anywhere, and others while a restart undoes, and then once more.
func TestRestart(t *testing.T) { // 6.6, 6.7, W2, W3
	for seed := range 1500 {
		w := worldOf(t, seed)
		for range 3 {
			for range w.g.Intn(60) {
				w.step()
			}
			w.crash()
			for most := w.g.Intn(4); !w.restart(most); most = w.g.Intn(12) {
				w.crash()
			}
			w.settled()
			if w.g.Intn(2) > 0 {
				w.checkpoint()
			}
		}
	}
}

// TestEveryCrash lets one history crash behind each of its records, and its restart behind each of the records that undo writes.
func TestEveryCrash(t *testing.T) { // 6.6, 6.7, W2, W3
	for seed := range 12 {
		for steps := range 60 {
			for most := 0; ; most++ {
				w := worldOf(t, seed)
				for range steps {
					w.step()
				}
				w.crash()
				whole := w.restart(most)
				if !whole {
					w.crash()
					w.restart(-1)
				}
				w.settled()
				if whole {
					break
				}
			}
		}
	}
}
