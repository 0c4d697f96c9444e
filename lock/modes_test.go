package lock_test

import (
	"slices"
	"testing"

	"palimpsest/lock"
)

// fitting tells whether two modes fit, by the chapter's words of each.
func fitting(a, b int) bool {
	return slices.Contains(map[int][]int{is: {is, ix, s, six}, ix: {is, ix}, s: {is, s}, six: {is}}[a], b)
}

// atLeast tells whether a is b or stands above it, by the chapter's words.
func atLeast(a, b int) bool {
	return a == b || slices.Contains(map[int][]int{ix: {is}, s: {is}, six: {is, ix, s}, x: {is, ix, s, six}}[a], b)
}

func TestFits(t *testing.T) { // 14.1
	for _, a := range numbers() {
		for _, b := range numbers() {
			if f := lock.Fits(a, b); f != fitting(a, b) {
				t.Errorf("Fits(%d, %d) = %v", a, b, f)
			}
		}
	}
}

func TestFitsBothWays(t *testing.T) { // 14.3
	for _, a := range numbers() {
		for _, b := range numbers() {
			if lock.Fits(a, b) != lock.Fits(b, a) {
				t.Errorf("Fits(%d, %d) is not Fits(%d, %d)", a, b, b, a)
			}
		}
	}
}

func TestGreaterFitsNoMore(t *testing.T) { // 14.3
	for great := is; great <= x; great++ {
		for less := is; less <= x; less++ {
			for _, other := range numbers() {
				if atLeast(great, less) && lock.Fits(great, other) && !lock.Fits(less, other) {
					t.Errorf("%d fits %d, and the lesser %d does not", great, other, less)
				}
			}
		}
	}
}

func TestJoin(t *testing.T) { // 14.1
	for _, c := range []struct{ a, b, want int }{
		{is, is, is}, {is, ix, ix}, {is, s, s}, {is, six, six}, {is, x, x},
		{ix, ix, ix}, {ix, s, six}, {ix, six, six}, {ix, x, x},
		{s, s, s}, {s, six, six}, {s, x, x},
		{six, six, six}, {six, x, x},
		{x, x, x},
	} {
		if a, b := lock.Join(c.a, c.b), lock.Join(c.b, c.a); a != c.want || b != c.want {
			t.Errorf("Join of %d and %d = %d, the other way round %d; want %d", c.a, c.b, a, b, c.want)
		}
	}
}

// TestJoinIsTheLeast: it is at least both, and each mode that is at least both is at least it.
func TestJoinIsTheLeast(t *testing.T) { // 14.1
	for a := is; a <= x; a++ {
		for b := is; b <= x; b++ {
			j := lock.Join(a, b)
			if !atLeast(j, a) || !atLeast(j, b) {
				t.Errorf("Join(%d, %d) = %d is not at least both", a, b, j)
			}
			for m := is; m <= x; m++ {
				if atLeast(m, a) && atLeast(m, b) && !atLeast(m, j) {
					t.Errorf("Join(%d, %d) = %d, and %d would do", a, b, j, m)
				}
			}
		}
	}
}

func TestJoinOfNone(t *testing.T) { // 14.1
	for _, a := range numbers() {
		for _, b := range numbers() {
			want := 0
			switch {
			case isMode(a) && isMode(b):
				continue
			case isMode(a):
				want = a
			case isMode(b):
				want = b
			}
			if j := lock.Join(a, b); j != want {
				t.Errorf("Join(%d, %d) = %d; want %d", a, b, j, want)
			}
		}
	}
}

// TestJoinOfMany: it makes no difference in which order modes are joined, nor how often one is.
func TestJoinOfMany(t *testing.T) { // 14.1
	for _, a := range numbers() {
		for _, b := range numbers() {
			for _, c := range numbers() {
				j := lock.Join(lock.Join(a, b), c)
				if lock.Join(a, lock.Join(b, c)) != j || lock.Join(lock.Join(c, b), a) != j || lock.Join(j, b) != j {
					t.Errorf("Join of %d, %d and %d hangs on their order", a, b, c)
				}
			}
		}
	}
}

// TestJoinFitsWhatBothFit: who grows is in the way of those alone whom one of the two modes does not fit.
func TestJoinFitsWhatBothFit(t *testing.T) { // 14.3
	for a := is; a <= x; a++ {
		for b := is; b <= x; b++ {
			for _, other := range numbers() {
				if lock.Fits(lock.Join(a, b), other) != (lock.Fits(a, other) && lock.Fits(b, other)) {
					t.Errorf("%d and %d, and what they become: not alike beside %d", a, b, other)
				}
			}
		}
	}
}
