package wait_test

import (
	"slices"
	"testing"
	"unsafe"

	"palimpsest/wait"
)

// roomy gives a list spare room, filled so that a write there is seen.
func roomy(l []wait.Edge) []wait.Edge {
	return append(slices.Clone(l), edges(71, 72, 73, 74, 75, 75)...)[:len(l)]
}

// spoil writes over a list, and over its spare room.
func spoil[T any](l []T, fill T) {
	l = l[:cap(l)]
	for i := range l {
		l[i] = fill
	}
}

// lists are some that the calls leave whole, cut, and leave nothing of.
func lists() [][]wait.Edge {
	return [][]wait.Edge{
		nil, {}, edges(1, 2), edges(1, 1), edges(1, 2, 2, 3, 4, 3), ring(1, 2), ring(3, 1, 2),
		edges(9, 8, 5, 6, 8, 9, 1, 2, 2, 1, 7, 7, 5, 6), edges(3, 3, 1, 2), edges(1, 2, 3, 3),
	}
}

// TestHandedIn: no call changes a list that it is given, nor the spare room behind it.
func TestHandedIn(t *testing.T) { // 15.3
	for _, l := range lists() {
		handed := roomy(l)
		was := slices.Clone(handed[:cap(handed)])
		for _, n := range []int{0, 1, 2, 3, 7, 8, 9, 71, 75} {
			wait.Cycle(handed, n)
			wait.Victim(handed, n)
			wait.Without(handed, n)
		}
		wait.Free(handed)
		if !slices.Equal(handed[:cap(handed)], was) {
			t.Fatalf("the list is changed: %v, was %v", handed[:cap(handed)], was)
		}
	}
}

// answers are all lists that the calls tell of one list.
func answers(l []wait.Edge) (numbers [][]int, left [][]wait.Edge) {
	for _, n := range []int{0, 1, 2, 3, 5, 7, 8, 9} {
		numbers = append(numbers, wait.Cycle(l, n))
		left = append(left, wait.Without(l, n))
	}
	return numbers, append(left, wait.Free(l), wait.Free(l))
}

func deep[T any](l [][]T) [][]T {
	var all [][]T
	for _, x := range l {
		all = append(all, slices.Clone(x))
	}
	return all
}

// TestAnswersAreNew: what is told can be written over, spare room too, and neither what was handed in changes nor any other answer; nor does an answer change with what was handed in.
func TestAnswersAreNew(t *testing.T) { // 15.3
	for _, l := range lists() {
		handed := roomy(l)
		was := slices.Clone(handed[:cap(handed)])
		numbers, left := answers(handed)
		wasNumbers, wasLeft := deep(numbers), deep(left)
		for i := range left {
			more, others := answers(handed)
			spoil(others[i], wait.Edge{From: 77, To: 78})
			if i < len(more) {
				spoil(more[i], 77)
			}
		}
		if !slices.Equal(handed[:cap(handed)], was) {
			t.Fatalf("what is told of %v lies in what was handed in: %v", l, handed[:cap(handed)])
		}
		spoil(handed, wait.Edge{From: 79, To: 80})
		if !slices.EqualFunc(numbers, wasNumbers, slices.Equal) || !slices.EqualFunc(left, wasLeft, slices.Equal) {
			t.Fatalf("what was told of %v has changed", l)
		}
		apart(t, handed, left)
	}
}

// apart wants no two lists of edges to lie in one memory.
func apart(t *testing.T, handed []wait.Edge, left [][]wait.Edge) {
	t.Helper()
	all := append([][]wait.Edge{handed}, left...)
	for i, a := range all {
		for _, b := range all[:i] {
			if cap(a) > 0 && cap(b) > 0 && unsafe.SliceData(a) == unsafe.SliceData(b) {
				t.Fatalf("%v and %v are one memory", a, b)
			}
		}
	}
}

// TestNothingIsKept: what was asked before makes no difference.
func TestNothingIsKept(t *testing.T) { // 15.3
	l := ring(1, 2, 3)
	round(t, l, 1, 1, 2, 3)
	free(t, l, edges(1, 2)...)
	l[2] = wait.Edge{From: 3, To: 4}
	round(t, l, 1)
	free(t, l, l...)
	l[2] = wait.Edge{From: 3, To: 1}
	round(t, l, 3, 1, 2, 3)
	without(t, l, 3, edges(1, 2)...)
	round(t, l, 3, 1, 2, 3)
}
