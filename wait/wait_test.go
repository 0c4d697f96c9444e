package wait_test

import (
	"math"
	"math/rand"
	"slices"
	"testing"

	"palimpsest/wait"
)

const least, greatest = math.MinInt, math.MaxInt

// edges tells a list of where edges begin and end, one behind the other.
func edges(l ...int) []wait.Edge {
	var all []wait.Edge
	for i := 0; i < len(l); i += 2 {
		all = append(all, wait.Edge{From: l[i], To: l[i+1]})
	}
	return all
}

// ring tells a round of all these numbers, in their order.
func ring(l ...int) []wait.Edge {
	var all []wait.Edge
	for i, n := range l {
		all = append(all, wait.Edge{From: n, To: l[(i+1)%len(l)]})
	}
	return all
}

// round wants Cycle to tell just these, and Victim the last of them.
func round(t *testing.T, l []wait.Edge, from int, want ...int) {
	t.Helper()
	if c := wait.Cycle(l, from); !slices.Equal(c, want) {
		t.Fatalf("Cycle(%v, %d) = %v; want %v", l, from, c, want)
	}
	victim := 0
	if len(want) > 0 {
		victim = want[len(want)-1]
	}
	if v, ok := wait.Victim(l, from); v != victim || ok != (len(want) > 0) {
		t.Fatalf("Victim(%v, %d) = %d, %v; want %d, %v", l, from, v, ok, victim, len(want) > 0)
	}
}

// free wants Free to leave just these.
func free(t *testing.T, l []wait.Edge, want ...wait.Edge) {
	t.Helper()
	if f := wait.Free(l); !slices.Equal(f, want) {
		t.Fatalf("Free(%v) = %v; want %v", l, f, want)
	}
}

// without wants Without to leave just these.
func without(t *testing.T, l []wait.Edge, id int, want ...wait.Edge) {
	t.Helper()
	if w := wait.Without(l, id); !slices.Equal(w, want) {
		t.Fatalf("Without(%v, %d) = %v; want %v", l, id, w, want)
	}
}

func TestExamples(t *testing.T) { // the chapter's table
	l := edges(1, 2, 2, 1, 2, 3)
	round(t, l, 1, 1, 2)
	round(t, l, 2, 1, 2)
	round(t, l, 3)
	free(t, l)
	without(t, l, 3, edges(1, 2, 2, 1)...)
}

func TestEmptyList(t *testing.T) { // 15.1
	for _, l := range [][]wait.Edge{nil, {}, make([]wait.Edge, 0, 4)} {
		for _, n := range []int{least, -1, 0, 1, 7, greatest} {
			round(t, l, n)
			without(t, l, n)
		}
		free(t, l)
	}
}

// TestEdgeToItself: who waits for itself lies on a round, and nobody else by that.
func TestEdgeToItself(t *testing.T) { // 15.1
	for _, n := range []int{least, -3, 0, 5, greatest} {
		round(t, edges(n, n), n, n)
		round(t, edges(n, n), 1)
		free(t, edges(n, n))
		without(t, edges(n, n), n)
		without(t, edges(n, n), 1, edges(n, n)...)
	}
	// Beside others: led to, led from, and both.
	l := edges(5, 6, 6, 6, 6, 7)
	round(t, l, 5)
	round(t, l, 6, 6)
	round(t, l, 7)
	free(t, l)
	without(t, l, 6)
	without(t, l, 7, edges(5, 6, 6, 6)...)
	free(t, edges(-3, -3, 1, 2), edges(1, 2)...)
	// On a round with others: it is one of them, and the round stays one without that edge.
	l = edges(1, 1, 1, 2, 2, 1, 4, 1)
	round(t, l, 1, 1, 2)
	round(t, l, 2, 1, 2)
	round(t, l, 4)
	free(t, l) // 2 breaks the round, and 1 still waits for itself
	free(t, edges(1, 2, 2, 1, 2, 2, 4, 1), edges(4, 1)...)
	// Several that wait for themselves.
	l = edges(3, 3, 1, 1, 1, 2, 3, 2, 2, 9)
	round(t, l, 1, 1)
	round(t, l, 2)
	round(t, l, 3, 3)
	free(t, l, edges(2, 9)...)
}

// TestEdgeTwice: it counts as one in what goes round, and both are told of what is left.
func TestEdgeTwice(t *testing.T) { // 15.1
	l := edges(1, 2, 1, 2)
	round(t, l, 1)
	round(t, l, 2)
	free(t, l, l...)
	without(t, l, 3, l...)
	without(t, l, 1)
	without(t, l, 2)
	l = edges(1, 2, 3, 4, 2, 1, 1, 2, 3, 4, 2, 1)
	round(t, l, 1, 1, 2)
	round(t, l, 2, 1, 2)
	round(t, l, 3)
	free(t, l, edges(3, 4, 3, 4)...)
	without(t, l, 3, edges(1, 2, 2, 1, 1, 2, 2, 1)...)
	l = edges(2, 2, 2, 2)
	round(t, l, 2, 2)
	free(t, l)
}

// TestFromOffTheRound: in no edge, where edges only begin, where they only end, and between rounds.
func TestFromOffTheRound(t *testing.T) { // 15.1
	l := edges(1, 2, 2, 3, 3, 1, 0, 1, 0, 9, 3, 8, 3, 7, 7, 8)
	round(t, l, 5)
	round(t, l, -1)
	round(t, l, 0) // only begins edges
	round(t, l, 8) // only ends them
	round(t, l, 9)
	round(t, l, 7) // does both
	round(t, l, 2, 1, 2, 3)
	free(t, l, edges(1, 2, 0, 1, 0, 9, 7, 8)...)
	l = edges(1, 2, 2, 1, 2, 3, 3, 4, 4, 3)
	round(t, l, 1, 1, 2)
	round(t, l, 3, 3, 4)
	l = edges(1, 2, 2, 1, 2, 5, 5, 3, 3, 4, 4, 3)
	round(t, l, 5)
	free(t, l, edges(5, 3)...)
}

func TestRoundOfTwo(t *testing.T) { // 15.1
	for _, p := range [][2]int{{1, 2}, {2, 1}, {-2, -1}, {-1, 0}, {0, 3}, {least, greatest}, {greatest, least}} {
		l := ring(p[0], p[1])
		low, high := min(p[0], p[1]), max(p[0], p[1])
		round(t, l, low, low, high)
		round(t, l, high, low, high)
		round(t, l, 77)
		free(t, l)
		l = append(l, edges(low, 77, 77, high, 78, low)...)
		round(t, l, low, slices.Sorted(slices.Values([]int{low, high, 77}))...)
		round(t, l, 78)
	}
}

func TestLongRound(t *testing.T) { // 15.1
	for _, n := range []int{3, 64, 999} {
		numbers := rand.New(rand.NewSource(int64(n))).Perm(n)
		rising := slices.Sorted(slices.Values(numbers))
		l := append(ring(numbers...), wait.Edge{From: -1, To: numbers[0]}, wait.Edge{From: numbers[1], To: -2})
		for _, from := range numbers {
			round(t, l, from, rising...)
		}
		round(t, l, -1)
		round(t, l, -2)
		without(t, ring(numbers...), numbers[0], ring(numbers...)[1:n-1]...)
		free(t, l, wait.Without(l, n-1)...)
		round(t, wait.Without(l, n-1), 0)
	}
}

// TestRoundsThatShareANumber: by it all of both can be reached from each.
func TestRoundsThatShareANumber(t *testing.T) { // 15.1
	l := edges(1, 2, 2, 3, 3, 1, 1, 4, 4, 1, 5, 1)
	for _, from := range []int{1, 2, 3, 4} {
		round(t, l, from, 1, 2, 3, 4)
	}
	round(t, l, 5)
	free(t, l, edges(1, 2, 5, 1)...)
	without(t, l, 1, edges(2, 3)...)
	// The number that they share is the greatest: both are broken by it.
	l = edges(1, 9, 9, 1, 2, 9, 9, 2, 1, 3, 2, 4)
	for _, from := range []int{1, 2, 9} {
		round(t, l, from, 1, 2, 9)
	}
	free(t, l, edges(1, 3, 2, 4)...)
}

func TestRoundsThatShareAnEdge(t *testing.T) { // 15.1
	// 1 to 2 to 3 to 1, and 1 to 2 to 4 to 5 to 1.
	l := edges(1, 2, 2, 3, 3, 1, 2, 4, 4, 5, 5, 1, 5, 6)
	for from := 1; from <= 5; from++ {
		round(t, l, from, 1, 2, 3, 4, 5)
	}
	round(t, l, 6)
	free(t, l, edges(1, 2, 2, 4)...)
	// The edge that they share ends at the greatest.
	l = edges(1, 9, 9, 3, 3, 1, 9, 4, 4, 1, 4, 3)
	free(t, l, edges(3, 1, 4, 1, 4, 3)...)
}

// TestRoundsWithAnEdgeBetween: it leads one way only, so they are two.
func TestRoundsWithAnEdgeBetween(t *testing.T) { // 15.1
	for _, between := range [][]wait.Edge{edges(2, 3), edges(3, 2), edges(1, 4, 2, 3, 1, 3), edges(4, 1)} {
		l := slices.Concat(ring(1, 2), between, ring(3, 4))
		round(t, l, 1, 1, 2)
		round(t, l, 2, 1, 2)
		round(t, l, 3, 3, 4)
		round(t, l, 4, 3, 4)
	}
	free(t, edges(1, 2, 2, 1, 1, 3, 3, 4, 4, 3), edges(1, 3)...)
	// With one back they are one.
	l := edges(1, 2, 2, 1, 2, 3, 3, 4, 4, 3, 4, 1)
	round(t, l, 1, 1, 2, 3, 4)
	round(t, l, 3, 1, 2, 3, 4)
}

// TestAnyNumbers: every int is a transaction, the greater the younger.
func TestAnyNumbers(t *testing.T) { // 15.1
	l := ring(0, greatest, -7, least)
	for _, from := range []int{least, -7, 0, greatest} {
		round(t, l, from, least, -7, 0, greatest)
	}
	round(t, l, 1)
	round(t, l, -1)
	free(t, l, edges(-7, least, least, 0)...)
	without(t, l, least, edges(0, greatest, greatest, -7)...)
	without(t, l, 0, edges(greatest, -7, -7, least)...)
	l = edges(0, 0, -1, -2, -2, -1, least, least, 3, -3)
	round(t, l, 0, 0)
	round(t, l, -2, -2, -1)
	round(t, l, least, least)
	free(t, l, edges(3, -3)...)
	// Near both ends, where a difference would not fit an int.
	l = slices.Concat(ring(least, least+1, greatest), ring(greatest-1, greatest))
	round(t, l, least, least, least+1, greatest-1, greatest)
	free(t, l, edges(least, least+1)...)
	free(t, ring(least, least+1), []wait.Edge{}...)
	free(t, slices.Concat(ring(least, least+1), edges(least, greatest)), edges(least, greatest)...)
}

// TestWithout: all edges that begin or end there, and no others, and those left in their order.
func TestWithout(t *testing.T) { // 15.1
	l := edges(5, 1, 2, 3, 1, 5, 3, 2, 2, 2, 9, 3, 5, 5, 2, 3)
	without(t, l, 7, l...)
	without(t, l, 0, l...)
	without(t, l, 5, edges(2, 3, 3, 2, 2, 2, 9, 3, 2, 3)...)
	without(t, l, 2, edges(5, 1, 1, 5, 9, 3, 5, 5)...)
	without(t, l, 3, edges(5, 1, 1, 5, 2, 2, 5, 5)...)
	without(t, l, 9, edges(5, 1, 2, 3, 1, 5, 3, 2, 2, 2, 5, 5, 2, 3)...)
	all := edges(4, 1, 2, 4, 4, 4, 4, 2)
	without(t, all, 4)
	without(t, all, 3, all...)
	without(t, edges(2, 1, 1, 2, 0, 3), 1, edges(0, 3)...)
}

// TestFree: of several rounds one number is taken away after the other.
func TestFree(t *testing.T) { // 15.1
	for _, c := range []struct{ l, left []wait.Edge }{
		{edges(1, 2, 2, 3), edges(1, 2, 2, 3)}, // no round
		{edges(3, 2, 2, 1, 3, 1), edges(3, 2, 2, 1, 3, 1)},
		{ring(1, 2, 3), edges(1, 2)},
		{ring(3, 2, 1), edges(2, 1)},
		{slices.Concat(ring(1, 2), ring(3, 4)), nil}, // two apart
		{slices.Concat(ring(1, 4), ring(2, 3), edges(1, 2)), edges(1, 2)},
		{edges(1, 9, 9, 2, 2, 1, 9, 3, 3, 9, 1, 4), edges(2, 1, 1, 4)},                                          // 9 breaks both
		{edges(9, 8, 8, 9, 8, 1, 1, 8, 1, 2), edges(1, 2)},                                                      // 9 breaks one, and leaves 8 on another
		{edges(9, 8, 8, 9, 7, 8, 8, 7, 7, 6, 6, 7, 5, 6), edges(5, 6)},                                          // a chain of rounds: 9, 8 and 7
		{edges(1, 5, 5, 1, 5, 6, 6, 7, 7, 5, 9, 1), edges(9, 1)},                                                // 7, then 5; 9 is on no round
		{edges(1, 2, 2, 1, 2, 9, 9, 10), edges(9, 10)},                                                          // the greatest of all lies on none
		{edges(1, 2, 2, 3, 3, 2, 3, 1, 1, 1), nil},                                                              // 3, then 1 by itself
		{edges(4, 3, 3, 4, 1, 2, 4, 2, 2, 4, 0, 1, 1, 3), edges(1, 2, 0, 1, 1, 3)},                              // 4 alone
		{slices.Concat(ring(1, 2, 3, 4), ring(4, 3, 2, 1), edges(0, 1, 1, 0, -1, 0)), edges(-1, 0)},             // 4, 3, 2 and 1
		{slices.Concat(ring(1, 2, 3, 4), edges(1, 3, 5, 3), ring(2, 3)), edges(1, 2)},                           // 4 and 3; the edge of 5 goes with 3
		{edges(9, 1, 9, 1, 1, 9, 1, 3, 1, 3, 2, 3), edges(1, 3, 1, 3, 2, 3)},                                    // edges twice
		{slices.Concat(ring(7, 3, 5), edges(8, 3, 3, 6), ring(5, 4)), edges(8, 3, 3, 6)},                        // 7 breaks one, 5 the other
		{slices.Concat(edges(8, 7), ring(1, 6), edges(7, 1), ring(2, 5), edges(1, 2)), edges(8, 7, 7, 1, 1, 2)}, // what leads into rounds stays, in its order
	} {
		free(t, c.l, c.left...)
	}
}

// TestLargeLists: answers come at once for lists far beyond those of a database's sessions.
func TestLargeLists(t *testing.T) { // 15.3
	const n = 4000
	var chain, back, pairs, self []wait.Edge
	for i := range n {
		chain = append(chain, wait.Edge{From: i + 1, To: i})
		back = append(back, wait.Edge{From: i, To: i + 1})
		pairs = append(pairs, ring(2*i, 2*i+1)...)
		self = append(self, wait.Edge{From: i, To: i})
	}
	round(t, chain, n/2)
	if len(wait.Free(chain)) != n || len(wait.Free(back)) != n || len(wait.Free(pairs)) != 0 || len(wait.Free(self)) != 0 {
		t.Error("Free of a long list")
	}
	round(t, pairs, n+1, n, n+1)
	both := slices.Concat(chain, back)
	if c := wait.Cycle(both, 1); len(c) != n+1 || c[0] != 0 || c[n] != n {
		t.Errorf("Cycle of %d tells %d", n+1, len(c))
	}
	var all []wait.Edge
	for i := range 150 {
		for j := range 150 {
			all = append(all, wait.Edge{From: i, To: j})
		}
	}
	if c := wait.Cycle(all, 77); len(c) != 150 || len(wait.Free(all)) != 0 {
		t.Errorf("Cycle of 150 tells %d", len(c))
	}
}
