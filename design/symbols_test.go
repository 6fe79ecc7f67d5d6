package design_test

import (
	"fmt"
	"math"
	"math/rand/v2"
	"slices"
	"testing"

	"dauber/api"
	"dauber/design"
)

// numbersUpTo returns the numbers from -n to n without 0.
func numbersUpTo(n int) []int64 {
	var list []int64
	for x := -n; x <= n; x++ {
		if x != 0 {
			list = append(list, int64(x))
		}
	}
	return list
}

// someCoefficient returns a number of any size, often with squares or common divisors in it.
func someCoefficient(r *rand.Rand) int64 {
	n := int64(1)
	for _, limit := range []int{2, 10, 100, 1000000}[r.IntN(4):] {
		n = max(1, n*int64(r.IntN(limit)+1)%1000001)
	}
	switch r.IntN(8) {
	case 0:
		root := int64(r.IntN(1000) + 1)
		n = root * root
	case 1:
		n = []int64{1, 2, 720720, 999983, 999999, 1000000, 524288, 531441}[r.IntN(8)]
	}
	if r.IntN(2) == 0 {
		return -n
	}
	return n
}

func expectSymbol(t *testing.T, a, b int64, place, want int) {
	t.Helper()
	if got, e := design.Symbol(a, b, place); got != want || e != api.OK {
		t.Errorf("Symbol(%d, %d, %d): %d, %d; want %d", a, b, place, got, e, want)
	}
}

func expectPlaces(t *testing.T, a, b int64) []int {
	t.Helper()
	places, e := design.Places(a, b)
	if want := placesOf(a, b); e != api.OK || !slices.Equal(places, want) {
		t.Errorf("Places(%d, %d): %v, %d; want %v", a, b, places, e, want)
	}
	return places
}

// P6.5: the symbols of small numbers at small places, and their places.
func TestSmallSymbols(t *testing.T) {
	for _, a := range numbersUpTo(40) {
		for _, b := range numbersUpTo(40) {
			expectPlaces(t, a, b)
			for _, place := range []int{-1, 2, 3, 5, 7, 11, 13, 17, 19, 37, 41, 43, 999983} {
				expectSymbol(t, a, b, place, symbolOf(a, b, place))
			}
		}
	}
}

// P6.5: the symbols of numbers of any size.
func TestSymbols(t *testing.T) {
	r := newRandom()
	for range 300 {
		a, b := someCoefficient(r), someCoefficient(r)
		for _, place := range append(expectPlaces(t, a, b), 3, 5, 7, 499979, 999979, 999983) {
			expectSymbol(t, a, b, place, symbolOf(a, b, place))
		}
	}
	for _, x := range []struct {
		a, b        int64
		place, want int
	}{
		{2, 3, 3, -1}, {2, 3, 2, -1}, {6, -1, 2, -1}, {6, -1, 3, -1}, {6, -1, -1, 1}, {-1, -1, -1, -1}, {-1, -1, 2, -1}, {-1, -1, 3, 1},
		{3, 5, 3, -1}, {3, 5, 5, -1}, {3, 5, 2, 1}, {5, 7, 11, 1}, {3, 3, 3, -1}, {9, 3, 3, 1}, {18, 3, 3, -1}, {-1, 999983, 999983, -1}, {-1, 999983, 2, -1},
		{1, -1, -1, 1}, {-1, 1, -1, 1}, {-1000000, -1000000, -1, -1}, {-1000000, -1000000, 2, -1}, {1000000, 1000000, 2, 1}, {2, 2, 2, 1}, {-2, -2, 2, -1}, {2, 5, 2, -1}, {4, 5, 2, 1},
	} {
		expectSymbol(t, x.a, x.b, x.place, x.want)
	}
}

// isSolvableAt reports whether the equation has a solution modulo every power of the prime: for coefficients without square factors one modulo the third power, or the fifth power of 2, can be made one modulo all others (Hensel), if not all of x, y and z are divisible by the prime.
func isSolvableAt(a, b int64, prime int) bool {
	a, b = squareFree(a), squareFree(b)
	p := int64(prime)
	modulus := p * p * p
	if p == 2 {
		modulus = 32
	}
	isSquare := make([]bool, modulus)
	for z := range modulus {
		isSquare[z*z%modulus] = true
	}
	for x := range modulus {
		for y := range modulus {
			if x%p == 0 && y%p == 0 {
				continue
			}
			if isSquare[((a*x*x+b*y*y)%modulus+modulus)%modulus] {
				return true
			}
		}
	}
	return false
}

// P6.5: the symbol is 1 just if the equation has a solution at the place; so the oracle's formulas are right, too.
func TestMeaningOfSymbols(t *testing.T) {
	for _, a := range numbersUpTo(20) {
		for _, b := range numbersUpTo(20) {
			for _, place := range []int{2, 3, 5, 7} {
				want := -1
				if isSolvableAt(a, b, place) {
					want = 1
				}
				expectSymbol(t, a, b, place, want)
			}
			if symbol, _ := design.Symbol(a, b, -1); symbol == 1 != (a > 0 || b > 0) {
				t.Errorf("Symbol(%d, %d, -1): %d", a, b, symbol)
			}
		}
	}
}

// P6.7: the product of all symbols is 1; the symbol is symmetric, multiplicative, that of a and -a is 1, and it is 1 at odd primes that divide neither number.
func TestReciprocity(t *testing.T) {
	r := newRandom()
	negative := 0
	for range 2000 {
		a, b := someCoefficient(r), someCoefficient(r)
		if r.IntN(2) == 0 {
			a, b = int64(r.IntN(50)+1), -int64(r.IntN(50)+1)
		}
		places, _ := design.Places(a, b)
		product := 1
		for _, place := range append(places, 3, 5, 7, 11, 499979, 999983) {
			s, e := design.Symbol(a, b, place)
			other, _ := design.Symbol(b, a, place)
			own, _ := design.Symbol(a, -a, place)
			if e != api.OK || s != other || s != 1 && s != -1 || own != 1 {
				t.Errorf("%d and %d at %d: %d and %d, %d; of %d and %d: %d", a, b, place, s, other, e, a, -a, own)
			}
			if slices.Contains(places, place) {
				continue
			}
			if s != 1 {
				t.Errorf("Symbol(%d, %d, %d): %d; the place is none of %v", a, b, place, s, places)
			}
		}
		for _, place := range places {
			s, _ := design.Symbol(a, b, place)
			product *= s
			if s == -1 {
				negative++
			}
			c := int64(r.IntN(1000) + 1)
			if max(b*c, -b*c) <= 1000000 {
				more, _ := design.Symbol(a, c, place)
				both, _ := design.Symbol(a, b*c, place)
				if both != s*more {
					t.Errorf("at %d: the symbol of %d and %d is %d; of %d %d, of both %d", place, a, b, s, c, more, both)
				}
			}
		}
		if product != 1 {
			t.Errorf("%d and %d: the product of the symbols at %v is %d", a, b, places, product)
		}
	}
	if negative < 500 {
		t.Errorf("only %d symbols are -1", negative)
	}
}

// P6.5: zeros come before numbers that are too large, and these before places that are none.
func TestSymbolErrors(t *testing.T) {
	for _, x := range []struct {
		a, b  int64
		place int
		want  api.Errno
	}{
		{0, 1, 2, api.ErrZero}, {1, 0, 2, api.ErrZero}, {0, 0, -1, api.ErrZero}, {0, 1000001, 2, api.ErrZero}, {math.MinInt64, 0, 2, api.ErrZero}, {0, 1, 4, api.ErrZero}, {5, 0, 0, api.ErrZero}, {0, math.MaxInt64, 1, api.ErrZero},
		{1000001, 1, 2, api.ErrArg}, {1, 1000001, 2, api.ErrArg}, {-1000001, 1, 2, api.ErrArg}, {1, -1000001, 2, api.ErrArg},
		{math.MinInt64, 1, -1, api.ErrArg}, {1, math.MinInt64, -1, api.ErrArg}, {math.MaxInt64, 1, 3, api.ErrArg}, {math.MinInt64, math.MinInt64, 3, api.ErrArg}, {1000001, 1, 4, api.ErrArg},
	} {
		what := fmt.Sprintf("%d, %d", x.a, x.b)
		symbol, e := design.Symbol(x.a, x.b, x.place)
		expectError(t, fmt.Sprintf("Symbol(%s, %d)", what, x.place), e, x.want, symbol)
		places, e := design.Places(x.a, x.b)
		expectError(t, "Places of "+what, e, x.want, places)
		n1, n2, n3, e := design.Solve(x.a, x.b)
		expectError(t, "Solve of "+what, e, x.want, n1, n2, n3)
		place, is := design.Refuse(x.a, x.b)
		if place != 0 || is {
			t.Errorf("Refuse of %s: %d, %v", what, place, is)
		}
	}
	for _, place := range []int{0, 1, -2, -3, 4, 6, 9, 15, 25, 49, 91, 341, 561, 999982, 999999, 1000000, 994009, 1000003, 1000037, 10000019, 1<<32 + 3, math.MinInt, math.MaxInt} {
		symbol, e := design.Symbol(3, 5, place)
		expectError(t, fmt.Sprintf("Symbol(3, 5, %d)", place), e, api.ErrArg, symbol)
	}
	for place := -10; place <= 5000; place++ {
		if _, e := design.Symbol(-3, 10, place); (e == api.OK) != (place == -1 || isPrime(place)) {
			t.Errorf("Symbol at %d: %d", place, e)
		}
	}
}
