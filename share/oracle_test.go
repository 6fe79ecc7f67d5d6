package share_test

import (
	"iter"
	"math/big"
	"math/rand/v2"
	"reflect"
	"slices"
	"testing"

	"dauber/api"
	"dauber/share"
)

// The tests compare the package with an oracle that calculates by the definitions, in integers of any size: it adds up terms, multiplies powers, tries all polynomials, or takes Lagrange's one.

func newRandom() *rand.Rand {
	return rand.New(rand.NewPCG(8, 13))
}

func isPrime(n int64) bool {
	return big.NewInt(n).ProbablyPrime(0) // of numbers with 64 bits that is certain
}

// raised returns the n-th power of a modulo m.
func raised(a, n, m int64) int64 {
	return new(big.Int).Exp(big.NewInt(a), big.NewInt(n), big.NewInt(m)).Int64()
}

// remainder returns n modulo m.
func remainder(n *big.Int, m int64) int64 {
	return new(big.Int).Mod(n, big.NewInt(m)).Int64()
}

// times returns the product of the numbers modulo m.
func times(m int64, numbers ...int64) int64 {
	product := big.NewInt(1)
	for _, n := range numbers {
		product.Mul(product, big.NewInt(n))
	}
	return remainder(product, m)
}

// over returns a divided by b modulo the prime p.
func over(a, b, p int64) int64 {
	return times(p, a, new(big.Int).ModInverse(big.NewInt(b), big.NewInt(p)).Int64())
}

// isGroup is the definition.
func isGroup(g share.Group) bool {
	switch {
	case g.R < 3 || g.R > 2147483647 || !isPrime(g.R):
		return false
	case g.P < 3 || g.P > 65521 || !isPrime(g.P) || (g.R-1)%g.P != 0:
		return false
	}
	return g.G >= 2 && g.G <= g.R-1 && raised(g.G, g.P, g.R) == 1
}

// elements returns the powers of G by 0, 1, .., P - 1.
func elements(g share.Group) []int64 {
	list := make([]int64, g.P)
	x := int64(1)
	for n := range list {
		list[n] = x
		x = times(g.R, x, g.G)
	}
	return list
}

// valueAt adds up the terms of a polynomial.
func valueAt(poly []int64, x, p int64) int64 {
	total, power := new(big.Int), big.NewInt(1)
	for _, c := range poly {
		total.Add(total, new(big.Int).Mul(big.NewInt(c), power))
		power = new(big.Int).Mul(power, big.NewInt(x))
	}
	return remainder(total, p)
}

// valuesAt returns the values of a polynomial at the xs.
func valuesAt(poly, xs []int64, p int64) []int64 {
	values := make([]int64, len(xs))
	for i, x := range xs {
		values[i] = valueAt(poly, x, p)
	}
	return values
}

// fits is the definition, of commitments that are elements.
func fits(g share.Group, commitments []int64, x, s int64) bool {
	product, exponent := int64(1), big.NewInt(1)
	for _, c := range commitments {
		product = times(g.R, product, new(big.Int).Exp(big.NewInt(c), exponent, big.NewInt(g.R)).Int64())
		exponent = new(big.Int).Mul(exponent, big.NewInt(x))
	}
	return raised(g.G, s, g.R) == product
}

// through returns Lagrange's polynomial: for each share the one that is 0 at all other xs.
func through(xs, shares []int64, p int64) []int64 {
	poly := make([]int64, len(xs))
	for i, x := range xs {
		part := []int64{shares[i]}
		for j, y := range xs {
			if i == j {
				continue
			}
			next := make([]int64, len(part)+1)
			for k, c := range part {
				c = over(c, remainder(big.NewInt(x-y), p), p)
				next[k] = remainder(big.NewInt(next[k]-c*y), p)
				next[k+1] = (next[k+1] + c) % p
			}
			part = next
		}
		for k, c := range part {
			poly[k] = (poly[k] + c) % p
		}
	}
	return poly
}

// lists yields all lists of n numbers from 0 to p - 1.
func lists(p int64, n int) iter.Seq[[]int64] {
	return func(yield func([]int64) bool) {
		list := make([]int64, n)
		for {
			if !yield(slices.Clone(list)) {
				return
			}
			i := 0
			for i < n && list[i] == p-1 {
				list[i] = 0
				i++
			}
			if i == n {
				return
			}
			list[i]++
		}
	}
}

// differing returns the places in which two lists differ.
func differing(a, b []int64) []int {
	var places []int
	for i := range a {
		if a[i] != b[i] {
			places = append(places, i)
		}
	}
	return places
}

// near returns the polynomials with so many coefficients that differ from at most that many shares.
func near(p int64, coefficients, most int, xs, shares []int64) [][]int64 {
	var found [][]int64
	for poly := range lists(p, coefficients) {
		if len(differing(valuesAt(poly, xs, p), shares)) <= most {
			found = append(found, poly)
		}
	}
	return found
}

// healable returns how many of n shares can be wrong.
func healable(n, bound int) int {
	wrong := 0
	for 2*(wrong+1)+bound+1 <= n {
		wrong++
	}
	return wrong
}

func expectList(t *testing.T, what string, got []int64, e api.Errno, want []int64) {
	t.Helper()
	if e != api.OK || !slices.Equal(got, want) {
		t.Errorf("%s: %v, %d; want %v", what, got, e, want)
	}
}

func expectNumber(t *testing.T, what string, got int64, e api.Errno, want int64) {
	t.Helper()
	if e != api.OK || got != want {
		t.Errorf("%s: %d, %d; want %d", what, got, e, want)
	}
}

func expectProof(t *testing.T, what string, got share.Proof, e api.Errno, want share.Proof) {
	t.Helper()
	if e != api.OK || got != want {
		t.Errorf("%s: %v, %d; want %v", what, got, e, want)
	}
}

func expectBool(t *testing.T, what string, got, want bool) {
	t.Helper()
	if got != want {
		t.Errorf("%s: %v", what, got)
	}
}

func expectHealed(t *testing.T, what string, g share.Group, bound int, xs, shares []int64, secret int64, liars []int) {
	t.Helper()
	got, places, e := share.Heal(g, bound, xs, shares)
	if e != api.OK || got != secret || !slices.Equal(places, liars) {
		t.Errorf("%s: %d, %v, %d; want %d, %v", what, got, places, e, secret, liars)
	}
}

// expectError checks the error, and that each of the results beside it is a zero value or empty.
func expectError(t *testing.T, what string, e, want api.Errno, results ...any) {
	t.Helper()
	if e != want {
		t.Errorf("%s: error %d; want %d", what, e, want)
	}
	for _, result := range results {
		v := reflect.ValueOf(result)
		if v.Kind() == reflect.Slice && v.Len() > 0 || v.Kind() != reflect.Slice && !v.IsZero() {
			t.Errorf("%s: %v beside the error %d", what, result, e)
		}
	}
}
