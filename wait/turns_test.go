package wait_test

import (
	"math/rand"
	"slices"
	"testing"

	"palimpsest/api"
	"palimpsest/lock"
	"palimpsest/wait"
)

// A session runs one transaction through its steps, each of which asks for locks; if it is rolled back, a new one begins anew.
type session struct {
	id    int
	steps [][]lock.Want
	done  int // steps of its transaction so far
	over  bool
	waits []int // for whom its last step was refused
}

// hall is sessions that take turns over one table of locks.
type hall struct {
	table    *lock.Table
	sessions []*session
	next     int // the number of the next transaction
}

func (h *hall) edges() []wait.Edge {
	var l []wait.Edge
	for _, s := range h.sessions {
		for _, to := range s.waits {
			l = append(l, wait.Edge{From: s.id, To: to})
		}
	}
	return l
}

// end lets a transaction go, and all that wait for it wait for it no more.
func (h *hall) end(s *session) {
	h.table.Release(s.id)
	for _, other := range h.sessions {
		other.waits = slices.DeleteFunc(other.waits, func(id int) bool { return id == s.id })
	}
	s.waits = nil
}

// rollback ends a transaction, and its session begins a younger one.
func (h *hall) rollback(s *session) {
	h.end(s)
	s.done, s.id = 0, h.next
	h.next++
}

// turn takes a session's next step; if it would lie on a round, the youngest of it is rolled back, until it does not.
func (h *hall) turn(t *testing.T, s *session) {
	t.Helper()
	if s.done == len(s.steps) {
		h.end(s)
		s.over = true
		return
	}
	for {
		s.waits = h.table.Ask(s.id, s.steps[s.done])
		victim, round := wait.Victim(h.edges(), s.id)
		if !round {
			break
		}
		if victim == h.oldest() {
			t.Fatalf("the oldest of all, %d, is rolled back", victim)
		}
		own := victim == s.id
		h.rollback(h.sessions[slices.IndexFunc(h.sessions, func(o *session) bool { return o.id == victim })])
		if own {
			return
		}
	}
	if h.table.Take(s.id, s.steps[s.done]) {
		s.done++
	}
}

func (h *hall) oldest() int {
	oldest := greatest
	for _, s := range h.sessions {
		if !s.over {
			oldest = min(oldest, s.id)
		}
	}
	return oldest
}

// someoneGoesOn wants nobody to lie on a round, and one who waits for nobody to be there.
func (h *hall) someoneGoesOn(t *testing.T) {
	t.Helper()
	l := h.edges()
	if left := wait.Free(l); !slices.Equal(left, l) {
		t.Fatalf("there is a round in %v: %v are left", l, left)
	}
	ready := func(s *session) bool { return !s.over && len(s.waits) == 0 }
	running := func(s *session) bool { return !s.over }
	if slices.ContainsFunc(h.sessions, running) && !slices.ContainsFunc(h.sessions, ready) {
		t.Fatalf("all wait: %v", l)
	}
}

// TestNobodyWaitsForEver: sessions whose steps lock the same names in whatever order all come to their ends, since each round is broken at its youngest.
func TestNobodyWaitsForEver(t *testing.T) { // 15.2, W6
	names := []string{"a", "b", "c", "d"}
	modes := []int{api.LIS, api.LIX, api.LS, api.LSIX, api.LX, api.LX}
	broken := 0
	for seed := range int64(80) {
		r := rand.New(rand.NewSource(seed))
		h := hall{table: lock.New(), next: 1}
		for range 2 + r.Intn(7) {
			s := &session{id: h.next}
			h.next++
			for range 1 + r.Intn(6) {
				want := lock.Want{Name: names[r.Intn(len(names))], Mode: modes[r.Intn(len(modes))]}
				s.steps = append(s.steps, []lock.Want{want})
			}
			h.sessions = append(h.sessions, s)
		}
		play(t, &h, r)
		broken += h.next - 1 - len(h.sessions)
	}
	if broken < 80 {
		t.Errorf("%d rounds only: the sessions hardly met", broken)
	}
}

// play gives turns until all are over; whoever waits for one that is still there gets none.
func play(t *testing.T, h *hall, r *rand.Rand) {
	t.Helper()
	for range 20000 {
		var ready []*session
		for _, s := range h.sessions {
			if !s.over && len(s.waits) == 0 {
				ready = append(ready, s)
			}
		}
		if len(ready) == 0 {
			break
		}
		h.turn(t, ready[r.Intn(len(ready))])
		h.someoneGoesOn(t)
	}
	for _, s := range h.sessions {
		if !s.over {
			t.Fatalf("transaction %d does not come to its end; %v wait", s.id, h.edges())
		}
	}
}
