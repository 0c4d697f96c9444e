package redo_test

import (
	"math"
	"math/rand"
	"slices"
	"testing"

	"palimpsest/api"
	"palimpsest/redo"
)

// What follows is the chapter's words, in lists that are gone through from their beginning each time.

func modelAnalyze(l []redo.Line) (txns []api.Txn, dirty []api.Dirty, commits int) {
	behind := l
	for i, x := range l {
		if x.Rec.Kind == api.RCheck {
			txns, dirty, commits = slices.Clone(x.Rec.Txns), slices.Clone(x.Rec.Dirty), x.Rec.Count
			behind = l[i+1:]
		}
	}
	for _, x := range behind {
		at := slices.IndexFunc(txns, func(t api.Txn) bool { return t.ID == x.Rec.Txn })
		if x.Rec.Txn > 0 {
			if at < 0 {
				at = len(txns)
				txns = append(txns, run(x.Rec.Txn, 0))
			}
			txns[at].Last = x.LSN
			switch x.Rec.Kind {
			case api.RCommit:
				txns[at].State = api.TDone
				commits++
			case api.RAbort:
				txns[at].State = api.TUndo
			case api.REnd:
				txns = slices.Delete(txns, at, at+1)
			}
		}
		was := slices.ContainsFunc(dirty, func(d api.Dirty) bool { return d.Page == x.Rec.Page })
		if (x.Rec.Kind == api.RUpdate || x.Rec.Kind == api.RClr) && !was {
			dirty = append(dirty, api.Dirty{Page: x.Rec.Page, LSN: x.LSN})
		}
	}
	slices.SortFunc(txns, func(a, b api.Txn) int { return a.ID - b.ID })
	slices.SortFunc(dirty, func(a, b api.Dirty) int { return a.Page - b.Page })
	return txns, dirty, commits
}

// modelRedo tells also the pages that are asked, in their order.
func modelRedo(l []redo.Line, dirty []api.Dirty, lsn func(int) int) (tells, asked []int) {
	type known struct{ page, lsn int }
	var pages []known
	for _, x := range l {
		if x.Rec.Kind != api.RUpdate && x.Rec.Kind != api.RClr {
			continue
		}
		if !slices.ContainsFunc(dirty, func(d api.Dirty) bool { return d.Page == x.Rec.Page && d.LSN <= x.LSN }) {
			continue
		}
		at := slices.IndexFunc(pages, func(k known) bool { return k.page == x.Rec.Page })
		if at < 0 {
			at = len(pages)
			asked = append(asked, x.Rec.Page)
			pages = append(pages, known{x.Rec.Page, lsn(x.Rec.Page)})
		}
		if pages[at].lsn < x.LSN {
			pages[at].lsn = x.LSN
			tells = append(tells, x.LSN)
		}
	}
	return tells, asked
}

func modelUndo(l []redo.Line, txns []api.Txn) []api.Rec {
	var out []api.Rec
	var left []api.Txn
	for _, t := range txns {
		switch {
		case t.State == api.TDone:
		case t.Last <= 0:
			out = append(out, ends(t.ID))
		default:
			left = append(left, t)
		}
	}
	for len(left) > 0 {
		first := 0
		for i, t := range left {
			if t.Last > left[first].Last || t.Last == left[first].Last && t.ID < left[first].ID {
				first = i
			}
		}
		next := 0
		for _, x := range l {
			if x.LSN != left[first].Last {
				continue
			}
			next = x.Rec.Prev
			if x.Rec.Kind == api.RClr {
				next = x.Rec.Next
			}
			if x.Rec.Kind == api.RUpdate {
				out = append(out, api.Rec{Kind: api.RClr, Txn: x.Rec.Txn, Page: x.Rec.Page, Off: x.Rec.Off, After: x.Rec.Before, Next: x.Rec.Prev})
			}
		}
		if next <= 0 || next >= left[first].Last {
			out = append(out, ends(left[first].ID))
			left = slices.Delete(left, first, first+1)
			continue
		}
		left[first].Last = next
	}
	return out
}

// alike wants all calls to tell of this log what the model tells.
func alike(t *testing.T, l []redo.Line, more []api.Txn, dirt []api.Dirty, at func(int) int) {
	t.Helper()
	txns, dirty, commits := modelAnalyze(l)
	analysis(t, l, txns, dirty, commits)
	for _, d := range [][]api.Dirty{dirty, dirt} {
		var asked []int
		tells := redo.Redo(l, d, func(page int) int { asked = append(asked, page); return at(page) })
		want, pages := modelRedo(l, d, at)
		if !slices.Equal(tells, want) || !slices.Equal(asked, pages) {
			t.Errorf("Redo of %v = %v, asked %v; want %v, %v", d, tells, asked, want, pages)
		}
		want, _ = modelRedo(l, d, func(int) int { return 0 })
		redoes(t, l, d, nil, want...)
	}
	for _, x := range [][]api.Txn{txns, more} {
		writes(t, l, x, modelUndo(l, x)...)
	}
	if t.Failed() {
		t.Fatalf("of the log %+v, %v", l, more)
	}
}

// TestShortLogs goes through all logs of up to three records, of all kinds, two transactions and nobody, and two pages.
func TestShortLogs(t *testing.T) { // 6.1 to 6.4
	var kinds []api.Rec
	for kind := api.RBegin; kind <= api.RCheck; kind++ {
		for txn := range 3 {
			kinds = append(kinds, api.Rec{Kind: kind, Txn: txn, Page: 4})
		}
	}
	kinds = append(kinds,
		api.Rec{Kind: api.RUpdate, Txn: 1, Page: 3}, api.Rec{Kind: api.RClr, Txn: 2, Page: 3},
		api.Rec{Kind: api.RCheck, Txns: []api.Txn{run(2, 1)}, Dirty: []api.Dirty{{Page: 4, LSN: 1}}, Count: 6})
	for length := range 4 {
		script := make([]int, length)
		for more := true; more; more = count(script, len(kinds)) {
			var l []redo.Line
			last := [3]int{}
			for i, k := range script {
				x := redo.Line{LSN: 2 * (i + 1), Rec: kinds[k]}
				x.Rec.Prev = last[x.Rec.Txn]
				x.Rec.Next = last[2-x.Rec.Txn]
				last[x.Rec.Txn] = x.LSN
				l = append(l, x)
			}
			alike(t, l, []api.Txn{run(2, last[2]), run(1, last[1]), done(3, last[1]), back(0, last[0])}, []api.Dirty{{Page: 4, LSN: 3}, {Page: 3, LSN: 4}}, func(page int) int { return page })
		}
	}
}

// count makes of a script the next one; false behind the last.
func count(script []int, base int) bool {
	for i := range script {
		if script[i]++; script[i] < base {
			return true
		}
		script[i] = 0
	}
	return false
}

// wild makes a log whose links lead anywhere.
func wild(g *rand.Rand) []redo.Line {
	var l []redo.Line
	lsn := g.Intn(4) - 1
	length := g.Intn(14)
	span := 1 + 2*length
	txns := 1 + g.Intn(5)
	for range length {
		lsn += 1 + g.Intn(3)
		r := api.Rec{Kind: 1 + g.Intn(6), Txn: g.Intn(txns+2) - 1, Prev: g.Intn(span+2) - 2, Next: g.Intn(span+2) - 2, Page: g.Intn(5) - 1, Off: g.Intn(9)}
		switch g.Intn(12) {
		case 0:
			r.Kind = api.RCheck
		case 1:
			r.Kind = g.Intn(20) - 5
		case 2, 3, 4, 5, 6:
			r.Kind = api.RUpdate
		}
		r.Before = []byte("before")[:g.Intn(7)]
		r.After = []byte("after")[:g.Intn(6)]
		r.Count = g.Intn(50)
		for _, id := range g.Perm(6)[:g.Intn(4)] {
			r.Txns = append(r.Txns, api.Txn{ID: id, Last: g.Intn(span) - 1, State: g.Intn(5)})
		}
		for _, page := range g.Perm(5)[:g.Intn(4)] {
			r.Dirty = append(r.Dirty, api.Dirty{Page: page, LSN: g.Intn(span) - 1})
		}
		l = append(l, redo.Line{LSN: lsn, Rec: r})
	}
	return l
}

func TestWildLogs(t *testing.T) { // 6.1 to 6.5, 6.8
	for seed := range 30000 {
		g := rand.New(rand.NewSource(int64(seed)))
		l := wild(g)
		var txns []api.Txn
		for range g.Intn(7) {
			txns = append(txns, api.Txn{ID: g.Intn(6) - 1, Last: g.Intn(32) - 2, State: g.Intn(5)})
		}
		var dirty []api.Dirty
		for range g.Intn(6) {
			dirty = append(dirty, api.Dirty{Page: g.Intn(5) - 1, LSN: g.Intn(32) - 2})
		}
		base := g.Intn(30)
		alike(t, l, txns, dirty, func(page int) int { return base - 5*page })
		for id := -1; id < 8; id++ {
			want := 0
			for _, x := range l {
				if x.Rec.Txn == id {
					want = x.LSN
				}
			}
			if got := redo.Next(l, id); got != want {
				t.Fatalf("Next(%+v, %d) = %d, want %d", l, id, got, want)
			}
		}
	}
}

// TestNotRising: of lists that don't rise nothing is promised but that every call ends.
func TestNotRising(t *testing.T) { // 6.8
	places := []int{math.MinInt, -1, 0, 1, 2, 3, 5, 9, math.MaxInt}
	for seed := range 3000 {
		g := rand.New(rand.NewSource(int64(seed)))
		l := wild(g)
		for i := range l {
			l[i].LSN = places[g.Intn(len(places))]
			l[i].Rec.Prev = places[g.Intn(len(places))]
			l[i].Rec.Next = places[g.Intn(len(places))]
		}
		var txns []api.Txn
		for id := range 4 {
			txns = append(txns, run(id, places[g.Intn(len(places))]))
		}
		a, d, _ := redo.Analyze(l)
		redo.Redo(l, d, nil)
		redo.Redo(l, d, func(int) int { return places[g.Intn(len(places))] })
		redo.Undo(l, a)
		redo.Undo(l, txns)
		redo.Next(l, g.Intn(5))
	}
}

// TestGreat: many losers over a long log end soon.
func TestGreat(t *testing.T) { // 6.8
	const losers, length = 20000, 200000
	var l []redo.Line
	last := make([]int, losers)
	for i := range length {
		txn := i * 7919 % losers
		l = append(l, update(i+1, txn+1, last[txn], i%500, "a"))
		last[txn] = i + 1
	}
	txns, dirty, _ := redo.Analyze(l)
	if len(txns) != losers || len(dirty) != 500 {
		t.Fatal(len(txns), len(dirty))
	}
	if got := redo.Redo(l, dirty, nil); len(got) != length {
		t.Error(len(got))
	}
	n := length
	for _, r := range redo.Undo(l, txns) {
		if r.Kind != api.RClr {
			continue
		}
		n--
		if x := l[n].Rec; r.Txn != x.Txn || r.Page != x.Page || r.Next != x.Prev {
			t.Fatal(n, r)
		}
	}
	if n != 0 {
		t.Error("not undone:", n)
	}
}
