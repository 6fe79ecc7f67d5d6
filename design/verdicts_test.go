package design_test

import (
	"fmt"
	"math"
	"testing"

	"dauber/api"
	"dauber/design"
)

// verdictOf is the definition of a verdict; a and b are the coefficients of its equation, or 0 if it has none.
func verdictOf(v, k, l int) (code, place int, a, b int64) {
	r := l * (v - 1) / (k - 1)
	switch {
	case r*(k-1) != l*(v-1) || v*r%k != 0:
		return design.Divides, 0, 0, 0
	case v*r/k < v:
		return design.Fisher, 0, 0, 0
	case v*r/k > v:
		return design.Open, 0, 0, 0
	case v%2 == 0:
		for n := 1; n*n <= k-l; n++ {
			if n*n == k-l {
				return design.Open, 0, 0, 0
			}
		}
		return design.Square, 0, 0, 0
	}
	a, b = int64(k-l), int64(l)
	for range (v - 1) / 2 {
		b = -b
	}
	if place, is := obstacleOf(a, b); is {
		return design.Place, place, 0, 0
	}
	return design.Open, 0, a, b
}

// expectVerdict compares Judge with the definition, and returns the code.
func expectVerdict(t *testing.T, v, k, l int) int {
	t.Helper()
	code, place, a, b := verdictOf(v, k, l)
	got, e := design.Judge(v, k, l)
	if got.Code != code || got.Place != place || e != api.OK {
		t.Errorf("Judge(%d, %d, %d): %v, %d; want %d, %d", v, k, l, got, e, code, place)
	}
	if a == 0 {
		expectNothing(t, fmt.Sprintf("Judge(%d, %d, %d)", v, k, l), got.X, got.Y, got.Z)
	} else if !isSolution(a, b, got.X, got.Y, got.Z) {
		t.Errorf("Judge(%d, %d, %d): %v is no solution for %d and %d", v, k, l, got, a, b)
	}
	return code
}

// P6.4: the verdicts on all numbers of up to 30 points, and on those of more points with as many blocks as points.
func TestVerdicts(t *testing.T) {
	codes := map[int]int{}
	for v := 3; v <= 30; v++ {
		for k := 2; k < v; k++ {
			for l := 1; l <= 40; l++ {
				codes[expectVerdict(t, v, k, l)]++
			}
		}
	}
	for v := 31; v <= 600; v++ {
		for k := 2; k < v; k++ {
			if l := k * (k - 1) / (v - 1); l > 0 {
				codes[expectVerdict(t, v, k, l)]++
			}
		}
	}
	for _, code := range []int{design.Open, design.Divides, design.Fisher, design.Square, design.Place} {
		if codes[code] < 30 {
			t.Errorf("only %d verdicts with the code %d", codes[code], code)
		}
	}
}

// P6.4: the constants, and verdicts that are known.
func TestKnownVerdicts(t *testing.T) {
	if design.Open != 0 || design.Divides != 1 || design.Fisher != 2 || design.Square != 3 || design.Place != 4 {
		t.Errorf("the codes have other numbers")
	}
	for _, x := range []struct{ v, k, l, code, place int }{
		{43, 7, 1, design.Place, 2},
		{22, 7, 2, design.Square, 0},
		{111, 11, 1, design.Open, 0},
		{8, 3, 1, design.Divides, 0},
		{29, 8, 2, design.Place, 2},
		{7, 3, 1, design.Open, 0},
		{7, 4, 2, design.Open, 0},
		{3, 2, 1, design.Open, 0},
		{3, 2, 10000, design.Open, 0},
		{4, 3, 1, design.Divides, 0}, // R would be 3 / 2
		{4, 3, 2, design.Open, 0},
		{6, 5, 2, design.Divides, 0}, // R would be 10 / 4
		{11, 5, 1, design.Divides, 0},
		{8, 3, 2, design.Divides, 0}, // R is 7, but B would be 56 / 3
		{16, 6, 1, design.Fisher, 0},
		{21, 6, 1, design.Fisher, 0},
		{25, 10, 3, design.Fisher, 0}, // R is 8, and B 20
		{34, 12, 4, design.Square, 0},
		{46, 10, 2, design.Square, 0},
		{58, 19, 6, design.Square, 0},
		{92, 14, 2, design.Square, 0},
		{106, 15, 2, design.Square, 0},
		{16, 6, 2, design.Open, 0},
		{36, 15, 6, design.Open, 0},
		{16, 10, 6, design.Open, 0},
		{64, 28, 12, design.Open, 0},
		{15, 7, 3, design.Open, 0},
		{157, 13, 1, design.Open, 0},
		{9, 3, 1, design.Open, 0},
		{22, 8, 4, design.Open, 0}, // none is known to be there, or not
		{10000, 2, 1, design.Open, 0},
		{10000, 2, 10000, design.Open, 0},
		{10000, 9999, 9998, design.Open, 0},
		{10000, 9999, 10000, design.Divides, 0},
		{9999, 9998, 9997, design.Open, 0},
		{9999, 9998, 1, design.Divides, 0},
		{10000, 100, 1, design.Open, 0}, // the affine plane of order 100
	} {
		got, e := design.Judge(x.v, x.k, x.l)
		if got.Code != x.code || got.Place != x.place || e != api.OK {
			t.Errorf("Judge(%d, %d, %d): %v, %d; want %d, %d", x.v, x.k, x.l, got, e, x.code, x.place)
		}
		expectVerdict(t, x.v, x.k, x.l)
	}
}

// isSumOfSquares reports whether n is x^2 + y^2.
func isSumOfSquares(n int) bool {
	for x := 0; x*x <= n; x++ {
		for y := 0; x*x+y*y <= n; y++ {
			if x*x+y*y == n {
				return true
			}
		}
	}
	return false
}

// P6.4: planes of an order that leaves 1 or 2 when divided by 4 are impossible if it is no sum of two squares, and else open (Bruck and Ryser).
func TestVerdictsOnPlanes(t *testing.T) {
	for order := 2; order <= 99; order++ {
		want := design.Open
		if (order%4 == 1 || order%4 == 2) && !isSumOfSquares(order) {
			want = design.Place
		}
		if code := expectVerdict(t, order*order+order+1, order+1, 1); code != want {
			t.Errorf("the plane of order %d: the code is %d; want %d", order, code, want)
		}
	}
}

// P6.4: numbers that are out of their ranges, and those at their ends.
func TestJudgeErrors(t *testing.T) {
	for _, x := range [][3]int{
		{2, 2, 1}, {2, 1, 1}, {1, 0, 1}, {0, 0, 0}, {-7, 3, 1}, {math.MinInt, 3, 1}, {math.MaxInt, 3, 1}, {10001, 3, 1}, {10001, 10000, 9999},
		{7, 1, 1}, {7, 0, 1}, {7, -3, 1}, {7, 7, 1}, {7, 8, 1}, {3, 3, 1}, {3, 1, 1}, {7, math.MinInt, 1}, {7, math.MaxInt, 1}, {10000, 1, 1}, {10000, 10000, 1},
		{7, 3, 0}, {7, 3, -1}, {7, 3, 10001}, {7, 3, math.MinInt}, {7, 3, math.MaxInt}, {3, 2, 0}, {10000, 9999, 10001}, {7, 1, 0}, {2, 1, 0},
	} {
		got, e := design.Judge(x[0], x[1], x[2])
		expectError(t, fmt.Sprint("Judge ", x), e, api.ErrArg, got)
	}
	for _, x := range [][3]int{{3, 2, 1}, {3, 2, 10000}, {10000, 2, 1}, {10000, 9999, 1}, {10000, 9999, 10000}, {7, 2, 1}, {7, 6, 1}} {
		expectVerdict(t, x[0], x[1], x[2])
	}
}
