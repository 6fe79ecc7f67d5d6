package field_test

import (
	"math"
	"testing"

	"dauber/api"
	"dauber/field"
	"dauber/tally"
)

// monicProducts returns the numbers, with base q, of the monic polynomials of that degree that are products of two of lesser degrees.
func monicProducts(o oracle, degree int) map[int]bool {
	found := map[int]bool{}
	for d := 1; d <= degree/2; d++ {
		for low := range o.lists(d) {
			a := append(low, 1)
			for other := range o.lists(degree - d) {
				found[fromDigits(o.polynomialProduct(a, append(other, 1)), o.q)] = true
			}
		}
	}
	return found
}

// P2.3: Irreducible and Irreducibles, against all products.
func TestIrreducible(t *testing.T) {
	degrees := map[int]int{2: 9, 3: 6, 4: 5, 5: 4, 7: 3, 8: 3, 9: 3, 11: 2, 16: 2, 25: 2}
	for q, top := range degrees {
		f, o := fieldOf(q), oracleOf(q)
		for degree := 1; degree <= top; degree++ {
			products, count := monicProducts(o, degree), 0
			for low := range o.lists(degree) {
				p := append(low, 1)
				want := !products[fromDigits(p, q)]
				if want {
					count++
				}
				if is, e := f.Irreducible(p); is != want || e != api.OK {
					t.Fatalf("%d: Irreducible(%v): %t, %d", q, p, is, e)
				}
				multiple := o.polynomialProduct(p, []int{q - 1})
				if is, e := f.Irreducible(multiple); is != want || e != api.OK {
					t.Fatalf("%d: Irreducible(%v): %t, %d", q, multiple, is, e)
				}
			}
			number, e := field.Irreducibles(q, degree)
			if got, _ := number.Int64(); got != int64(count) || e != api.OK {
				t.Errorf("Irreducibles(%d, %d): %s, %d; want %d", q, degree, number, e, count)
			}
		}
		for c := range q {
			p := []int{c}
			if c == 0 {
				p = nil
			}
			if is, e := f.Irreducible(p); is || e != api.OK {
				t.Errorf("%d: Irreducible(%v): %t, %d", q, p, is, e)
			}
		}
	}
}

// sparse returns the polynomial x^n plus the given terms.
func sparse(n int, terms map[int]int) []int {
	p := make([]int, n+1)
	p[n] = 1
	for i, c := range terms {
		p[i] = c
	}
	return p
}

// P2.3: Irreducible, of degrees up to 199: known trinomials, and x^n - g with a generator g and an n whose prime factors divide q - 1 (and 4 too, if it divides n).
func TestIrreducibleLong(t *testing.T) {
	minus := func(q int) int {
		f := fieldOf(q)
		return f.Sub(0, f.Generator())
	}
	for _, c := range []struct {
		q  int
		p  []int
		is bool
	}{
		{2, sparse(127, map[int]int{0: 1, 1: 1}), true},
		{2, sparse(127, map[int]int{0: 1, 2: 1}), false},
		{2, sparse(199, map[int]int{0: 1, 34: 1}), true},
		{2, sparse(199, map[int]int{0: 1, 35: 1}), false},
		{2, sparse(198, map[int]int{0: 1, 68: 1}), false}, // the square of x^99 + x^34 + 1
		{257, sparse(128, map[int]int{0: minus(257)}), true},
		{257, sparse(128, map[int]int{0: 257 - 4}), false},
		{65521, sparse(196, map[int]int{0: minus(65521)}), true},
		{65521, sparse(198, map[int]int{0: minus(65521)}), false},
		{65536, sparse(153, map[int]int{0: minus(65536)}), true},
		{65536, sparse(152, map[int]int{0: minus(65536)}), false},
		{59049, sparse(121, map[int]int{0: minus(59049)}), true},
		{59049, sparse(120, map[int]int{0: minus(59049)}), false},
		{59049, sparse(81, map[int]int{0: minus(59049)}), false}, // a power of a polynomial of the degree 1
	} {
		if is, e := fieldOf(c.q).Irreducible(c.p); is != c.is || e != api.OK {
			t.Errorf("%d: Irreducible of the degree %d: %t, %d", c.q, len(c.p)-1, is, e)
		}
	}
}

// P2.3: products and powers of irreducible polynomials are not irreducible.
func TestIrreducibleProducts(t *testing.T) {
	r := newRandom()
	for _, q := range []int{2, 3, 4, 9, 13, 251, 256, 65521} {
		f := fieldOf(q)
		for range 30 {
			a, b := anyPolynomial(r, q, 2+r.IntN(6)), anyPolynomial(r, q, 2+r.IntN(6))
			for _, pair := range [][2][]int{{a, b}, {a, a}} {
				product, _ := f.Product(pair[0], pair[1])
				if is, e := f.Irreducible(product); is || e != api.OK {
					t.Errorf("%d: Irreducible(%v): %t, %d", q, product, is, e)
				}
			}
		}
	}
}

// P2.3: the errors of Irreducibles, in their order.
func TestIrreduciblesErrors(t *testing.T) {
	for _, order := range []int{math.MinInt, -2, 0, 1, 6, 12, 65535, 65537, math.MaxInt} {
		for _, degree := range []int{math.MinInt, -1, 0, 1, 40, 41, math.MaxInt} {
			n, e := field.Irreducibles(order, degree)
			expectError(t, "Irreducibles", e, api.ErrField, n)
		}
	}
	for _, order := range []int{2, 9, 65521, 65536} {
		for _, degree := range []int{math.MinInt, -1, 0, 41, math.MaxInt} {
			n, e := field.Irreducibles(order, degree)
			expectError(t, "Irreducibles", e, api.ErrArg, n)
		}
	}
}

// P2.7 (Gauss): the sum over the divisors d of n of d times the number of irreducible polynomials of degree d is q^n.
func TestGauss(t *testing.T) {
	for _, q := range []int{2, 3, 4, 5, 7, 8, 9, 16, 25, 27, 101, 251, 256, 4096, 59049, 65521, 65536} {
		for n := 1; n <= 40; n++ {
			total := tally.Of(0)
			for d := 1; d <= n; d++ {
				if n%d > 0 {
					continue
				}
				number, e := field.Irreducibles(q, d)
				if e != api.OK || number.Sign() != 1 {
					t.Fatalf("Irreducibles(%d, %d): %s, %d", q, d, number, e)
				}
				product, _ := number.Mul(tally.Of(int64(d)))
				total, _ = total.Add(product)
			}
			power, _ := tally.Of(int64(q)).Pow(n)
			if total.Cmp(power) != 0 {
				t.Errorf("the sum of %d, %d: %s; want %s", q, n, total, power)
			}
		}
	}
	for d, want := range map[int]string{1: "2", 2: "1", 3: "2", 4: "3", 5: "6", 6: "9", 10: "99", 12: "335"} {
		if n, e := field.Irreducibles(2, d); n.String() != want || e != api.OK {
			t.Errorf("Irreducibles(2, %d): %s, %d", d, n, e)
		}
	}
}
