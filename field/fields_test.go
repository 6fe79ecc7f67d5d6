package field_test

import (
	"math"
	"slices"
	"testing"

	"dauber/api"
	"dauber/field"
)

// P2.1: there are fields of just the orders that are powers of primes.
func TestOrders(t *testing.T) {
	for q := -3; q <= api.MaxOrder+500; q++ {
		f, e := field.New(q)
		p, k := 0, 0
		if q >= 2 && q <= api.MaxOrder {
			p = leastDivisor(q)
			for rest := q; rest%p == 0; rest /= p {
				k++
			}
		}
		if p == 0 || int(math.Round(math.Pow(float64(p), float64(k)))) != q {
			if f != nil || e != api.ErrField {
				t.Errorf("New(%d): %v, %d", q, f, e)
			}
			continue
		}
		if e != api.OK || f.Order() != q {
			t.Fatalf("New(%d): %d", q, e)
		}
		if gotP, gotK := f.Prime(); gotP != p || gotK != k {
			t.Errorf("Prime of %d: %d, %d; want %d, %d", q, gotP, gotK, p, k)
		}
		if m := f.Modulus(); len(m) != k+1 || m[k] != 1 || k == 1 && m[0] != 0 {
			t.Errorf("Modulus of %d: %v", q, m)
		}
		if k == 1 && f.Generator() != leastPrimitiveRoot(p) {
			t.Errorf("Generator of %d: %d", q, f.Generator())
		}
	}
}

// leastPrimitiveRoot returns the least number whose powers modulo the prime are all but 0.
func leastPrimitiveRoot(p int) int {
	o := oracle{q: p, p: p, k: 1, modulus: []int{0, 1}}
	for a := 1; ; a++ {
		if powersAreAll(a, p, func(a, b int) int { return a * b % p }, o.q-1) {
			return a
		}
	}
}

// powersAreAll reports whether no power of a by a proper divisor of the number of powers is 1.
func powersAreAll(a, q int, multiply func(a, b int) int, powers int) bool {
	for rest := powers; rest > 1; {
		d := leastDivisor(rest)
		rest /= d
		power, square := 1, a
		for n := powers / d; n > 0; n /= 2 {
			if n%2 == 1 {
				power = multiply(power, square)
			}
			square = multiply(square, square)
		}
		if power == 1 {
			return false
		}
	}
	return true
}

// P2.1: orders far out of range.
func TestOrdersOutOfRange(t *testing.T) {
	for _, q := range []int{math.MinInt, math.MinInt + 1, -65536, -8, -2, -1, 0, 1, 6, 10, 12, 36, 100, 216, 65535, 65537, 66049, 131072, 1 << 32, 1 << 62, math.MaxInt} {
		f, e := field.New(q)
		expectError(t, "New", e, api.ErrField, f)
	}
}

// P2.1: the modulus is the least polynomial that is not a product.
func TestModulus(t *testing.T) {
	orders := allOrders()
	for _, q := range orders {
		if m, o := fieldOf(q).Modulus(), oracleOf(q); !slices.Equal(m, o.modulus) {
			t.Errorf("Modulus of %d: %v; want %v", q, m, o.modulus)
		}
	}
	for q, want := range map[int][]int{2: {0, 1}, 7: {0, 1}, 65521: {0, 1}, 4: {1, 1, 1}, 8: {1, 1, 0, 1}, 9: {1, 0, 1}} {
		if m := fieldOf(q).Modulus(); !slices.Equal(m, want) {
			t.Errorf("Modulus of %d: %v; want %v", q, m, want)
		}
	}
}

// P2.1: the generator is the least element whose powers are all elements but 0.
func TestGenerator(t *testing.T) {
	for _, q := range append(smallOrders(), middleOrders()...) {
		o := oracleOf(q)
		least := 0
		for a := 1; least == 0; a++ {
			seen := map[int]bool{}
			for power := a; !seen[power]; power = o.multiply(power, a) {
				seen[power] = true
			}
			if len(seen) == q-1 {
				least = a
			}
		}
		if g := fieldOf(q).Generator(); g != least {
			t.Errorf("Generator of %d: %d; want %d", q, g, least)
		}
	}
	for _, q := range largeOrders() {
		o := oracleOf(q)
		least := 1
		for !powersAreAll(least, q, o.multiply, q-1) {
			least++
		}
		if g := fieldOf(q).Generator(); g != least {
			t.Errorf("Generator of %d: %d; want %d", q, g, least)
		}
	}
	for q, want := range map[int]int{2: 1, 3: 2, 4: 2, 7: 3, 8: 2, 9: 4} {
		if g := fieldOf(q).Generator(); g != want {
			t.Errorf("Generator of %d: %d; want %d", q, g, want)
		}
	}
}

// R4: what Modulus returns belongs to the caller.
func TestModulusIsNew(t *testing.T) {
	for _, q := range []int{7, 8} {
		f := fieldOf(q)
		want := f.Modulus()
		f.Modulus()[0] = 5
		if got := f.Modulus(); !slices.Equal(got, want) {
			t.Errorf("Modulus of %d: %v; want %v", q, got, want)
		}
	}
}
