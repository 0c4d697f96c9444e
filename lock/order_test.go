package lock_test

import (
	"maps"
	"math/rand"
	"slices"
	"testing"

	"palimpsest/lock"
)

// A deed is what a transaction does to the things of some names, and what it was told of them.
type deed struct {
	names []string
	write bool
	told  []int
}

// things are numbers under names.
type things map[string]int

// do reads the things of a deed's names and, if it is a write, makes them what hangs on all that its transaction was told by then.
func (w things) do(d deed, before []deed) []int {
	sum := 1
	for _, b := range before {
		for _, n := range b.told {
			sum = sum*31 + n
		}
	}
	var told []int
	for i, name := range d.names {
		told = append(told, w[name])
		if d.write {
			w[name] = w[name]*7 + sum + i
		}
	}
	return told
}

// player is a session's transaction: what it has done, and what the things were ahead of that.
type player struct {
	id    int
	deeds []deed
	old   things
}

// world is things under locks.
type world struct {
	table  *lock.Table
	things things
	done   [][]deed // of all that committed, in the order of their commits
}

// asked tells the locks of a deed: on the empty name, which stands for all, and on a name of its own.
func asked(d deed) []lock.Want {
	switch {
	case len(d.names) > 1 && d.write:
		return wants("", x)
	case len(d.names) > 1:
		return wants("", s)
	case d.write:
		return wants("", ix, d.names[0], x)
	}
	return wants("", is, d.names[0], s)
}

func (w *world) play(p *player, d deed) {
	if !w.table.Take(p.id, asked(d)) {
		return
	}
	if d.write {
		for _, name := range d.names {
			if _, known := p.old[name]; !known {
				p.old[name] = w.things[name]
			}
		}
	}
	d.told = w.things.do(d, p.deeds)
	p.deeds = append(p.deeds, d)
}

func (w *world) commit(p *player) {
	w.done = append(w.done, p.deeds)
	w.table.Release(p.id)
}

func (w *world) rollback(p *player) {
	maps.Copy(w.things, p.old)
	w.table.Release(p.id)
}

// TestOneAfterTheOther: those that take locks ahead of each deed and release them at their end are as if they had run one by one, in the order of their commits.
func TestOneAfterTheOther(t *testing.T) { // 14.3, W5
	names := []string{"a", "b", "c"}
	for seed := range int64(200) {
		r := rand.New(rand.NewSource(seed))
		w := world{table: lock.New(), things: things{"a": 0, "b": 0, "c": 0}}
		players := []*player{{id: 1, old: things{}}, {id: 2, old: things{}}, {id: 3, old: things{}}, {id: 4, old: things{}}}
		for next := 5; next < 80; {
			at := r.Intn(len(players))
			d := deed{names: names, write: r.Intn(2) == 0}
			if r.Intn(6) > 0 {
				d.names = names[r.Intn(3):][:1]
			}
			switch r.Intn(10) {
			case 0:
				w.commit(players[at])
			case 1:
				w.rollback(players[at])
			default:
				w.play(players[at], d)
				continue
			}
			players[at] = &player{id: next, old: things{}}
			next++
		}
		for _, p := range players {
			w.rollback(p)
		}
		alone(t, seed, w)
	}
}

// alone runs those that committed again, one by one, and wants each to be told the same, and all things to become the same.
func alone(t *testing.T, seed int64, w world) {
	t.Helper()
	again := things{"a": 0, "b": 0, "c": 0}
	for i, deeds := range w.done {
		for j, d := range deeds {
			if told := again.do(d, deeds[:j]); !slices.Equal(told, d.told) {
				t.Fatalf("seed %d: deed %d of the commit %d was told %v; alone %v", seed, j, i, d.told, told)
			}
		}
	}
	if !maps.Equal(again, w.things) {
		t.Fatalf("seed %d: %v; one by one %v", seed, w.things, again)
	}
}
