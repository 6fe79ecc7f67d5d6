package field

import (
	"dauber/api"
	"dauber/tally"
)

const maxDegree = 40

// derivative returns the sum of the i c(i) x^(i - 1), of a polynomial that is not 0.
func (f *Field) derivative(p []int) []int {
	result := make([]int, len(p)-1)
	for i := range result {
		result[i] = f.product(p[i+1], (i+1)%f.prime)
	}
	return trimmed(result)
}

// remainderOfPower returns the rest of the n-th power of p, n being at least 1, by the modulus.
func (f *Field) remainderOfPower(p []int, n int, modulus []int) []int {
	if n == 1 {
		_, rest := f.divide(p, modulus)
		return rest
	}
	half := f.remainderOfPower(p, n/2, modulus)
	result := f.multiply(half, half)
	if n%2 == 1 {
		_, result = f.divide(result, modulus)
		result = f.multiply(result, p)
	}
	_, result = f.divide(result, modulus)
	return result
}

// fixed returns how many residues h modulo p, of at least the degree 1, are needed to make all those with h^q = h as sums of multiples. If no square divides p, that is the number of its irreducible factors (Berlekamp).
func (f *Field) fixed(p []int) int {
	degree := len(p) - 1
	// h^q is the value of h at x^q, since the coefficients are their own q-th powers: row i is what becomes of x^i, less x^i.
	m := matrix{f, make([][]int, degree)}
	image := f.remainderOfPower([]int{0, 1}, f.order, p)
	next := []int{1}
	for i := range m.rows {
		m.rows[i] = make([]int, degree)
		copy(m.rows[i], next)
		m.rows[i][i] = f.difference(m.rows[i][i], 1)
		_, next = f.divide(f.multiply(next, image), p)
	}
	return degree - len(pair{m, f.unrecorded(degree)}.eliminate())
}

// Irreducible reports whether p is irreducible.
func (f *Field) Irreducible(p []int) (bool, api.Errno) {
	if e := f.Check(p); e != api.OK {
		return false, e
	}
	if len(p) < 2 || len(f.common(p, f.derivative(p))) > 1 {
		return false, api.OK
	}
	return f.fixed(p) == 1, api.OK
}

// Irreducibles returns the number of monic irreducible polynomials of that degree over the field of that order, or ErrField, or ErrArg.
func Irreducibles(order, degree int) (tally.Int, api.Errno) {
	if _, _, ok := primePower(order); !ok {
		return tally.Int{}, api.ErrField
	}
	if degree < 1 || degree > maxDegree {
		return tally.Int{}, api.ErrArg
	}
	// Gauss: the number times the degree is the sum, over the divisors d of the degree, of order^d times Möbius's function of degree / d.
	coefficients := make([]tally.Int, degree+1)
	for d := 1; d <= degree; d++ {
		if degree%d == 0 {
			coefficients[d] = tally.Of(moebius(degree / d))
		}
	}
	total := value(integers{}, coefficients, tally.Of(int64(order)))
	number, _, _ := total.Div(tally.Of(int64(degree)))
	return number, api.OK
}

// moebius returns 0 if a square greater than 1 divides n, or else 1 or -1, by whether the number of its prime factors is even.
func moebius(n int) int64 {
	sign := int64(1)
	for _, factor := range primeFactors(n) {
		if n%(factor*factor) == 0 {
			return 0
		}
		sign = -sign
	}
	return sign
}
