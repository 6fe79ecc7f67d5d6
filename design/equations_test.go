package design_test

import (
	"slices"
	"testing"

	"dauber/api"
	"dauber/design"
)

// expectSolved compares Solve and Refuse with the oracle, and reports whether there is a solution.
func expectSolved(t *testing.T, a, b int64) bool {
	t.Helper()
	x, y, z, e := design.Solve(a, b)
	place, refused := design.Refuse(a, b)
	wantPlace, none := obstacleOf(a, b)
	switch {
	case none:
		expectError(t, "Solve", e, api.ErrNone, x, y, z)
	case e != api.OK || !isSolution(a, b, x, y, z):
		t.Errorf("Solve(%d, %d): %v, %v, %v, %d", a, b, x, y, z, e)
	}
	if refused != none || place != wantPlace {
		t.Errorf("Refuse(%d, %d): %d, %v; want %d, %v", a, b, place, refused, wantPlace, none)
	}
	return e == api.OK
}

// P6.5, P6.6: all small numbers; the oracle tries all x and y for which there can be a least solution.
func TestSmallEquations(t *testing.T) {
	solved := map[bool]int{}
	for _, a := range numbersUpTo(60) {
		for _, b := range numbersUpTo(60) {
			want := isSolvable(a, b)
			solved[want]++
			if expectSolved(t, a, b) != want {
				t.Errorf("%d and %d: there is a solution: %v", a, b, want)
			}
		}
	}
	if solved[true] < 1000 || solved[false] < 1000 {
		t.Errorf("equations with and without a solution: %v", solved)
	}
}

// P6.5, P6.6: numbers of any size; those that are made to have a solution have one.
func TestEquations(t *testing.T) {
	r := newRandom()
	for range 300 {
		expectSolved(t, someCoefficient(r), someCoefficient(r))
	}
	for made := 0; made < 400; {
		// z^2 - a x^2 = b y^2, with some square in it as y^2.
		a, x, z := someCoefficient(r), int64(r.IntN(1000)), int64(r.IntN(1000000))
		rest := z*z - a*x*x
		if rest == 0 {
			continue
		}
		for y := int64(1000); y > 1; y-- {
			if rest%(y*y) == 0 && rest/(y*y) != 0 {
				rest /= y * y
			}
		}
		if max(rest, -rest) > 1000000 {
			continue
		}
		made++
		if !expectSolved(t, a, rest) || !expectSolved(t, rest, a) {
			t.Errorf("no solution for %d and %d", a, rest)
		}
	}
}

// P6.5: examples; the least and the greatest numbers, squares, numbers with squares in them, and equal ones.
func TestKnownEquations(t *testing.T) {
	for _, x := range []struct {
		a, b  int64
		place int // 0 if there is a solution
	}{
		{2, 7, 0}, {7, 2, 0}, {-1, -1, -1}, {3, 5, 3}, {6, -1, 2}, {2, 3, 2}, {-7, -11, -1}, {-1, 3, 2}, {-1, 7, 2}, {3, 3, 2}, {-3, -3, -1}, {5, 5, 0}, {5, 13, 5}, {1, 1, 0}, {1, -1, 0}, {-1, 1, 0}, {1, 999983, 0}, {999983, 1, 0}, {-999983, 999983, 0},
		{999983, 999983, 2}, {-1, 999983, 2}, {4, 3, 0}, {3, 4, 0}, {-4, 4, 0}, {-4, -9, -1}, {9, 25, 0}, {8, 8, 0}, {12, 13, 0}, {12, 75, 2}, {50, 98, 0}, {1000000, -1000000, 0}, {-1000000, -1000000, -1}, {1000000, 1000000, 0}, {-1000000, 1000000, 0}, {999999, 1000000, 0}, {-999999, -1, -1},
		{41, 2, 0}, {-7, 8, 0}, {13, 13, 0}, {720720, -720719, 0}, {999983, -999983, 0}, {524288, 531441, 0}, {524288, -524288, 0},
	} {
		place, refused := design.Refuse(x.a, x.b)
		if place != x.place || refused != (x.place != 0) {
			t.Errorf("Refuse(%d, %d): %d, %v; want %d", x.a, x.b, place, refused, x.place)
		}
		expectSolved(t, x.a, x.b)
	}
}

// P6.6: either a solution or a place, one of Places, at which the symbol is -1 while it is 1 at all lesser ones.
func TestEitherSolutionOrPlace(t *testing.T) {
	r := newRandom()
	for range 2000 {
		a, b := someCoefficient(r), someCoefficient(r)
		_, _, _, e := design.Solve(a, b)
		place, refused := design.Refuse(a, b)
		places, _ := design.Places(a, b)
		if e != api.OK && e != api.ErrNone || refused != (e == api.ErrNone) || refused != slices.Contains(places, place) {
			t.Errorf("%d and %d: error %d, and the place %d, %v of %v", a, b, e, place, refused, places)
		}
		for _, p := range places {
			symbol, _ := design.Symbol(a, b, p)
			if (!refused || p < place) && symbol != 1 || refused && p == place && symbol != -1 {
				t.Errorf("%d and %d: the least place is %d, %v, and the symbol at %d is %d", a, b, place, refused, p, symbol)
			}
		}
	}
}
