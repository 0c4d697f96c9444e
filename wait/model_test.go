package wait_test

import (
	"cmp"
	"math/rand"
	"slices"
	"testing"

	"palimpsest/wait"
)

// What follows is the chapter's words, by a table of who is reached from whom that is filled until nothing changes.

type pair struct{ a, b int }

func touched(l []wait.Edge) []int {
	var all []int
	for _, e := range l {
		for _, n := range []int{e.From, e.To} {
			if !slices.Contains(all, n) {
				all = append(all, n)
			}
		}
	}
	return all
}

// reaches tells of which two the first leads to the second by one edge or more: numbers are let in as stops one by one.
func reaches(l []wait.Edge) map[pair]bool {
	m := map[pair]bool{}
	for _, e := range l {
		m[pair{e.From, e.To}] = true
	}
	all := touched(l)
	for _, stop := range all {
		for _, a := range all {
			if !m[pair{a, stop}] {
				continue
			}
			for _, b := range all {
				if m[pair{stop, b}] {
					m[pair{a, b}] = true
				}
			}
		}
	}
	return m
}

func modelCycle(l []wait.Edge, m map[pair]bool, from int) []int {
	var all []int
	for _, n := range touched(l) {
		if m[pair{from, n}] && m[pair{n, from}] {
			all = append(all, n)
		}
	}
	slices.Sort(all)
	return all
}

// modelFree takes the greatest of those that lie on rounds away, and looks again; it tells whom it took, too.
func modelFree(l []wait.Edge) (left []wait.Edge, gone []int) {
	left = slices.Clone(l)
	for {
		m := reaches(left)
		var on []int
		for _, n := range touched(left) {
			if m[pair{n, n}] {
				on = append(on, n)
			}
		}
		if len(on) == 0 {
			return left, gone
		}
		worst := slices.Max(on)
		gone = append(gone, worst)
		left = slices.DeleteFunc(left, func(e wait.Edge) bool { return e.From == worst || e.To == worst })
	}
}

// hold wants every answer of a list to be the model's, and 15.2 to hold.
func hold(t *testing.T, l []wait.Edge) {
	t.Helper()
	m := reaches(l)
	all := append(touched(l), 1234567)
	for _, n := range all {
		round(t, l, n, modelCycle(l, m, n)...)
		want := slices.DeleteFunc(slices.Clone(l), func(e wait.Edge) bool { return e.From == n || e.To == n })
		without(t, l, n, want...)
	}
	want, gone := modelFree(l)
	free(t, l, want...)
	nobodyGoesRound(t, want)
	oldestStays(t, l, gone)
}

// nobodyGoesRound wants a list that Free told to have no round, and Free of it to be the same.
func nobodyGoesRound(t *testing.T, left []wait.Edge) {
	t.Helper()
	for _, n := range touched(left) {
		round(t, left, n)
	}
	free(t, left, left...)
}

// oldestStays wants the least number not to be taken away but by an edge to itself. An edge from each number to one that leads nowhere tells who was: it is left where the number is.
func oldestStays(t *testing.T, l []wait.Edge, gone []int) {
	t.Helper()
	all := touched(l)
	if len(all) == 0 {
		return
	}
	const nowhere = 7654321
	probed := slices.Clone(l)
	for _, n := range all {
		probed = append(probed, wait.Edge{From: n, To: nowhere})
	}
	left := wait.Free(probed)
	for _, n := range all {
		if taken := !slices.Contains(left, wait.Edge{From: n, To: nowhere}); taken != slices.Contains(gone, n) {
			t.Fatalf("Free(%v): that %d is taken away is %v", l, n, taken)
		}
	}
	oldest := slices.Min(all)
	if slices.Contains(gone, oldest) != slices.Contains(l, wait.Edge{From: oldest, To: oldest}) {
		t.Fatalf("Free(%v): %d is the oldest; taken away: %v", l, oldest, gone)
	}
}

// TestEverySet: every set of edges between three numbers.
func TestEverySet(t *testing.T) { // 15.1, 15.2
	numbers := []int{-1, 0, 4}
	for set := range 1 << 9 {
		var l []wait.Edge
		for i := range 9 {
			if set>>i&1 == 1 {
				l = append(l, wait.Edge{From: numbers[i/3], To: numbers[i%3]})
			}
		}
		hold(t, l)
	}
}

// TestEverySetOfFour: every set of edges between four numbers, without those to themselves.
func TestEverySetOfFour(t *testing.T) { // 15.1, 15.2
	for set := range 1 << 12 {
		var l []wait.Edge
		for i := range 12 {
			from, step := i/3, i%3+1
			if set>>i&1 == 1 {
				l = append(l, wait.Edge{From: from, To: (from + step) % 4})
			}
		}
		hold(t, l)
	}
}

// TestEveryShortList: every list of four edges between three numbers, in every order, the same edge again among them.
func TestEveryShortList(t *testing.T) { // 15.1, 15.2
	for i := range 9 * 9 * 9 * 9 {
		var l []wait.Edge
		for k := i; len(l) < 4; k /= 9 {
			l = append(l, wait.Edge{From: k % 9 / 3, To: k % 3})
		}
		hold(t, l)
	}
}

// bySeed tells some edges between some numbers, which may be far from each other.
func bySeed(r *rand.Rand, count, size int) []wait.Edge {
	numbers := make([]int, size)
	for i := range numbers {
		switch r.Intn(8) {
		case 0:
			numbers[i] = int(r.Uint64())
		case 1:
			numbers[i] = []int{least, least + 1, -1, 0, 1, greatest - 1, greatest}[r.Intn(7)]
		default:
			numbers[i] = r.Intn(4*size) - size
		}
	}
	var l []wait.Edge
	for range count {
		l = append(l, wait.Edge{From: numbers[r.Intn(size)], To: numbers[r.Intn(size)]})
	}
	return l
}

// TestListsBySeed: from few edges to some hundred, between few numbers and many.
func TestListsBySeed(t *testing.T) { // 15.1, 15.2
	for seed := range int64(150) {
		r := rand.New(rand.NewSource(seed))
		hold(t, bySeed(r, r.Intn(30), 1+r.Intn(20)))
	}
	for seed := range int64(12) {
		r := rand.New(rand.NewSource(seed))
		hold(t, bySeed(r, 100+r.Intn(400), 10+r.Intn(60)))
	}
}

// TestManyNumbers: lists whose edges hardly meet, so that rounds are few and long.
func TestManyNumbers(t *testing.T) { // 15.1, 15.2
	for seed := range int64(4) {
		r := rand.New(rand.NewSource(seed))
		size := 100 + r.Intn(50)
		hold(t, bySeed(r, size+r.Intn(size/2), size))
	}
}

// TestOrderOfEdges: no answer hangs on it but the order of those left.
func TestOrderOfEdges(t *testing.T) { // 15.1
	byNumbers := func(a, b wait.Edge) int {
		return cmp.Or(cmp.Compare(a.From, b.From), cmp.Compare(a.To, b.To))
	}
	for seed := range int64(40) {
		r := rand.New(rand.NewSource(seed))
		l := bySeed(r, 60, 40)
		left := slices.SortedFunc(slices.Values(wait.Free(l)), byNumbers)
		mixed := slices.Clone(l)
		r.Shuffle(len(mixed), func(i, j int) { mixed[i], mixed[j] = mixed[j], mixed[i] })
		for _, n := range touched(l) {
			round(t, mixed, n, wait.Cycle(l, n)...)
		}
		if f := slices.SortedFunc(slices.Values(wait.Free(mixed)), byNumbers); !slices.Equal(f, left) {
			t.Fatalf("Free(%v) tells other edges than Free(%v)", mixed, l)
		}
	}
}
