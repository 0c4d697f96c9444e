package lock_test

import (
	"cmp"
	"math/rand"
	"slices"
	"testing"

	"palimpsest/lock"
)

// What follows is the chapter's words, in a list of all locks that is gone through from its beginning each time.

type held struct {
	id   int
	name string
	mode int
}

type model struct{ locks []held }

// joined tells the first mode that is at least all of these; 0, if there are none.
func joined(l []int) int {
	if len(l) == 0 {
		return 0
	}
	for m := is; m <= x; m++ {
		if !slices.ContainsFunc(l, func(n int) bool { return !atLeast(m, n) }) {
			return m
		}
	}
	panic("no mode is at least all")
}

// would tells the mode that id would come to hold on a name by l; 0, if l asks nothing of it.
func (m *model) would(id int, l []lock.Want, name string) int {
	var modes []int
	for _, w := range l {
		if w.Name == name && isMode(w.Mode) {
			modes = append(modes, w.Mode)
		}
	}
	if len(modes) == 0 {
		return 0
	}
	for _, h := range m.locks {
		if h.id == id && h.name == name {
			modes = append(modes, h.mode)
		}
	}
	return joined(modes)
}

func (m *model) ask(id int, l []lock.Want) []int {
	var others []int
	for _, h := range m.locks {
		mode := m.would(id, l, h.name)
		if h.id != id && mode != 0 && !fitting(h.mode, mode) && !slices.Contains(others, h.id) {
			others = append(others, h.id)
		}
	}
	slices.Sort(others)
	return others
}

func (m *model) take(id int, l []lock.Want) bool {
	if len(m.ask(id, l)) > 0 {
		return false
	}
	for _, w := range l {
		mode := m.would(id, l, w.Name)
		if mode == 0 {
			continue
		}
		m.locks = slices.DeleteFunc(m.locks, func(h held) bool { return h.id == id && h.name == w.Name })
		m.locks = append(m.locks, held{id, w.Name, mode})
	}
	return true
}

func (m *model) release(id int) {
	m.locks = slices.DeleteFunc(m.locks, func(h held) bool { return h.id == id })
}

func (m *model) held(id int) []lock.Want {
	var l []lock.Want
	for _, h := range m.locks {
		if h.id == id {
			l = append(l, lock.Want{Name: h.name, Mode: h.mode})
		}
	}
	slices.SortFunc(l, func(a, b lock.Want) int { return cmp.Compare(a.Name, b.Name) })
	return l
}

func (m *model) holders(name string) []int {
	var l []int
	for _, h := range m.locks {
		if h.name == name {
			l = append(l, h.id)
		}
	}
	slices.Sort(l)
	return l
}

// A step is a Take, or a Release where there is no list.
type step struct {
	id int
	l  []lock.Want
}

// pair is a table and the model of it.
type pair struct {
	table *lock.Table
	model model
}

// do takes a step in both, and holds what they tell against each other, and against 14.3.
func (p *pair) do(t *testing.T, x step, ids []int, names []string) {
	t.Helper()
	if x.l == nil {
		p.table.Release(x.id)
		p.model.release(x.id)
	} else {
		want := p.model.ask(x.id, x.l)
		if a := p.table.Ask(x.id, x.l); !slices.Equal(a, want) {
			t.Fatalf("Ask(%d, %v) = %v; want %v", x.id, x.l, a, want)
		}
		if ok := p.table.Take(x.id, x.l); ok != p.model.take(x.id, x.l) {
			t.Fatalf("Take(%d, %v) = %v", x.id, x.l, ok)
		}
	}
	for _, id := range ids {
		if h := p.table.Held(id); !slices.Equal(h, p.model.held(id)) {
			t.Fatalf("behind %v Held(%d) = %v; want %v", x, id, h, p.model.held(id))
		}
	}
	for _, name := range names {
		if h := p.table.Holders(name); !slices.Equal(h, p.model.holders(name)) {
			t.Fatalf("behind %v Holders(%q) = %v; want %v", x, name, h, p.model.holders(name))
		}
		p.fit(t, name)
	}
}

// fit wants any two that hold something on a name to hold modes that fit.
func (p *pair) fit(t *testing.T, name string) {
	t.Helper()
	var modes []int
	for _, id := range p.table.Holders(name) {
		l := p.table.Held(id)
		at := slices.IndexFunc(l, func(w lock.Want) bool { return w.Name == name })
		if at < 0 {
			t.Fatalf("%d is a holder of %q, and does not hold it", id, name)
		}
		modes = append(modes, l[at].Mode)
	}
	for i, a := range modes {
		for _, b := range modes[:i] {
			if !lock.Fits(a, b) {
				t.Fatalf("modes %d and %d are both held on %q", a, b, name)
			}
		}
	}
}

// TestEveryShortScript: every script of three steps of three transactions on two names.
func TestEveryShortScript(t *testing.T) { // 14.2, 14.3
	ids, names := []int{0, 1, 2}, []string{"", "a"}
	lists := [][]lock.Want{
		nil, wants("a", is), wants("a", ix), wants("a", s), wants("a", six), wants("a", x),
		wants("", ix, "a", x), wants("a", s, "", 0, "a", ix), wants("", s),
	}
	var steps []step
	for _, id := range ids {
		for _, l := range lists {
			steps = append(steps, step{id, l})
		}
	}
	n := len(steps)
	for i := range n * n * n {
		p := pair{table: lock.New()}
		for _, k := range []int{i / (n * n), i / n % n, i % n} {
			p.do(t, steps[k], ids, names)
		}
	}
}

// TestLongScripts: steps by seed, of many transactions on many names.
func TestLongScripts(t *testing.T) { // 14.2, 14.3
	ids := []int{-3, -1, 0, 1, 2, 3, 4, 50, 1 << 40}
	names := []string{"", "a", "b", "ab", "\x00", "\xFF", "db"}
	for seed := range int64(60) {
		r := rand.New(rand.NewSource(seed))
		p := pair{table: lock.New()}
		most := 1 + r.Intn(6) // of a list
		for range 400 {
			x := step{id: ids[r.Intn(len(ids))]}
			if r.Intn(4) > 0 {
				x.l = []lock.Want{}
				for range r.Intn(most + 1) {
					x.l = append(x.l, lock.Want{Name: names[r.Intn(len(names))], Mode: weighed(r)})
				}
			}
			p.do(t, x, ids, names)
		}
	}
}

// weighed tells low modes more often, so that several hold one name, and now and then a number that is none.
func weighed(r *rand.Rand) int {
	l := []int{-1, 0, is, is, is, is, ix, ix, ix, s, s, six, x, 6}
	return l[r.Intn(len(l))]
}
