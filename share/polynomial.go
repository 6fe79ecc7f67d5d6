package share

import (
	"slices"

	"dauber/api"
)

const (
	maxCoefficients = 16
	maxHalls        = 64
)

// checkPolynomials returns ErrGroup; or, for one polynomial after the other, ErrLong if there are not from 1 to 16 coefficients, or ErrArg if one is not from 0 to P - 1.
func checkPolynomials(g Group, polys ...[]int64) api.Errno {
	if e := Check(g); e != api.OK {
		return e
	}
	for _, poly := range polys {
		switch {
		case len(poly) < 1 || len(poly) > maxCoefficients:
			return api.ErrLong
		case !g.areNumbers(poly...):
			return api.ErrArg
		}
	}
	return api.OK
}

// isHall reports whether a hall can have the number x.
func (g Group) isHall(x int64) bool {
	return x >= 1 && x <= maxHalls && x < g.P
}

// valueAt returns the value of a polynomial at x.
func (g Group) valueAt(poly []int64, x int64) int64 {
	total := g.number(0)
	for _, c := range slices.Backward(poly) {
		total = total.times(g.number(x)).plus(g.number(c))
	}
	return total.value
}

// Shares returns the shares of the halls 1, 2, ..; ErrGroup; ErrLong or ErrArg if poly is no polynomial; or ErrArg if there cannot be so many halls.
func Shares(g Group, poly []int64, halls int) ([]int64, api.Errno) {
	if e := checkPolynomials(g, poly); e != api.OK {
		return nil, e
	}
	if !g.isHall(int64(halls)) {
		return nil, api.ErrArg
	}
	shares := make([]int64, halls)
	for i := range shares {
		shares[i] = g.valueAt(poly, int64(i+1))
	}
	return shares, api.OK
}

// Commit returns G to the power of each coefficient; ErrGroup; or ErrLong or ErrArg if poly is no polynomial.
func Commit(g Group, poly []int64) ([]int64, api.Errno) {
	if e := checkPolynomials(g, poly); e != api.OK {
		return nil, e
	}
	commitments := make([]int64, len(poly))
	for i, c := range poly {
		commitments[i] = g.generated(c).value
	}
	return commitments, api.OK
}

// Fits reports whether the share s of hall x fits the commitments.
func Fits(g Group, commitments []int64, x, s int64) bool {
	if Check(g) != api.OK || len(commitments) < 1 || len(commitments) > maxCoefficients || !g.isHall(x) || !g.isNumber(s) {
		return false
	}
	// Where a polynomial has sums and multiples by x, its commitments have products and powers by x.
	total := g.residue(1)
	for _, c := range slices.Backward(commitments) {
		if !g.isElement(c) {
			return false
		}
		total = g.raised(total, x).times(g.residue(c))
	}
	return g.generated(s) == total
}

// combined returns what a function makes of the coefficients of two polynomials of the same length.
func (g Group) combined(a, b []int64, combine func(x, y number) number) []int64 {
	result := make([]int64, len(a))
	for i, x := range a {
		result[i] = combine(g.number(x), g.number(b[i])).value
	}
	return result
}

// Sum returns the sum of two polynomials; ErrGroup; ErrLong or ErrArg if one is none, a being looked at first; or ErrShape if they do not have the same length.
func Sum(g Group, a, b []int64) ([]int64, api.Errno) {
	if e := checkPolynomials(g, a, b); e != api.OK {
		return nil, e
	}
	if len(a) != len(b) {
		return nil, api.ErrShape
	}
	return g.combined(a, b, func(x, y number) number { return x.plus(y) }), api.OK
}
