package share_test

import (
	"fmt"
	"math"
	"math/rand/v2"
	"slices"
	"testing"

	"dauber/api"
	"dauber/share"
)

// mostHalls returns how many halls there can be.
func mostHalls(g share.Group) int {
	return int(min(64, g.P-1))
}

// somePolynomial returns a polynomial of 1 to 16 coefficients, the first or the last one of which may be 0.
func somePolynomial(r *rand.Rand, p int64) []int64 {
	poly := anyNumbers(r, p, 1+r.IntN(16))
	if r.IntN(5) == 0 {
		poly[len(poly)-1] = 0
	}
	if r.IntN(5) == 0 {
		poly[0] = 0
	}
	return poly
}

// edgePolynomials are of 1 and of 16 coefficients, of the least and the greatest ones.
func edgePolynomials(p int64) [][]int64 {
	last := make([]int64, 16)
	last[15] = 1
	return [][]int64{
		{0}, {1}, {p - 1}, {0, 0}, {1, 0}, {0, 1}, {p - 1, p - 1}, {0, p - 1},
		make([]int64, 16),
		slices.Repeat([]int64{p - 1}, 16),
		slices.Repeat([]int64{1}, 15),
		last,
	}
}

func polynomials(r *rand.Rand, p int64) [][]int64 {
	list := edgePolynomials(p)
	for range 20 {
		list = append(list, somePolynomial(r, p))
	}
	return list
}

// P8.2: Shares and Commit of polynomials of all lengths.
func TestSharesAndCommitments(t *testing.T) {
	r := newRandom()
	for _, g := range groups() {
		for _, poly := range polynomials(r, g.P) {
			what := fmt.Sprint(g, ", ", poly)
			want := valuesAt(poly, from(1, mostHalls(g)), g.P)
			for _, halls := range []int{1, 2, 1 + r.IntN(mostHalls(g)), mostHalls(g)} {
				shares, e := share.Shares(g, poly, halls)
				expectList(t, "Shares of "+what, shares, e, want[:halls])
			}
			var powers []int64
			for _, c := range poly {
				powers = append(powers, raised(g.G, c, g.R))
			}
			commitments, e := share.Commit(g, poly)
			expectList(t, "Commit of "+what, commitments, e, powers)
		}
	}
}

// P8.2: numbers of halls, in groups with few elements, too.
func TestNumbersOfHalls(t *testing.T) {
	poly := []int64{2, 1}
	for _, g := range groups() {
		for _, halls := range []int{math.MinInt, -1, 0, 1, 2, 3, 4, 5, 10, 11, 60, 61, 63, 64, 65, 66, 67, 68, int(g.P) - 1, int(g.P), int(g.P) + 1, math.MaxInt32, 3 + 1<<32, math.MaxInt} {
			shares, e := share.Shares(g, poly, halls)
			what := fmt.Sprint("Shares of ", g, ", halls: ", halls)
			if halls >= 1 && halls <= 64 && int64(halls) < g.P {
				expectList(t, what, shares, e, valuesAt(poly, from(1, halls), g.P))
			} else {
				expectError(t, what, e, api.ErrArg, shares)
			}
		}
	}
}

// badPolynomials returns lists that are no polynomials, with the errors.
func badPolynomials(p int64) map[api.Errno][][]int64 {
	long := make([]int64, 17)
	wrong := slices.Repeat([]int64{-1}, 17)
	bad := map[api.Errno][][]int64{api.ErrLong: {nil, {}, long, wrong, make([]int64, 1<<20)}}
	for _, n := range []int64{-1, p, p + 1, -p, math.MaxInt64, math.MinInt64, 1 << 32, 1 << 62} {
		last := make([]int64, 16)
		last[15] = n
		bad[api.ErrArg] = append(bad[api.ErrArg], []int64{n}, []int64{n, 1}, []int64{1, n}, []int64{1, n, 1}, last)
	}
	return bad
}

// P8.2: lists that are no polynomials: the error comes before that of the halls, and for one polynomial after the other.
func TestBadPolynomials(t *testing.T) {
	for _, g := range groups() {
		good := []int64{1, 2}
		for want, lists := range badPolynomials(g.P) {
			for _, bad := range lists {
				for _, halls := range []int{1, 0, 65} {
					shares, e := share.Shares(g, bad, halls)
					expectError(t, "Shares", e, want, shares)
				}
				commitments, e := share.Commit(g, bad)
				expectError(t, "Commit", e, want, commitments)
				for _, other := range [][]int64{good, {1}, {1, 2, 0}, nil, {-1, 0}, make([]int64, 17), {g.P}} {
					sum, e := share.Sum(g, bad, other)
					expectError(t, fmt.Sprint("Sum of ", len(bad), " and ", other), e, want, sum)
				}
				for _, other := range [][]int64{good, {1}, make([]int64, 16)} {
					sum, e := share.Sum(g, other, bad)
					expectError(t, fmt.Sprint("Sum of ", other, " and ", len(bad)), e, want, sum)
				}
			}
		}
	}
}

// P8.2: Sum of polynomials with the same length, and with different ones.
func TestSum(t *testing.T) {
	r := newRandom()
	for _, g := range groups() {
		for _, a := range polynomials(r, g.P) {
			for _, b := range append(polynomials(r, g.P)[:12], anyNumbers(r, g.P, len(a)), a) {
				what := fmt.Sprint("Sum in ", g, " of ", a, " and ", b)
				sum, e := share.Sum(g, a, b)
				if len(a) != len(b) {
					expectError(t, what, e, api.ErrShape, sum)
					continue
				}
				want := make([]int64, len(a))
				for i := range a {
					want[i] = (a[i] + b[i]) % g.P
				}
				expectList(t, what, sum, e, want)
			}
		}
	}
}

// P8.2: Fits in small groups, of all numbers of halls and all shares.
func TestFitsInSmallGroups(t *testing.T) {
	r := newRandom()
	for _, g := range smallGroups() {
		all := elements(g)
		for range 30 {
			commitments := make([]int64, 1+r.IntN(16))
			for i := range commitments {
				commitments[i] = all[r.IntN(len(all))]
			}
			for x := int64(-2); x < g.P+3; x++ {
				for s := int64(-2); s < g.P+3; s++ {
					want := x >= 1 && x < g.P && s >= 0 && s < g.P && fits(g, commitments, x, s)
					expectBool(t, fmt.Sprint("Fits of ", g, commitments, x, s), share.Fits(g, commitments, x, s), want)
				}
			}
		}
	}
}

// P8.2: Fits of a share and of others, of the greatest hall and the next one.
func TestFits(t *testing.T) {
	r := newRandom()
	for _, g := range groups() {
		for _, poly := range polynomials(r, g.P) {
			commitments, _ := share.Commit(g, poly)
			for _, x := range []int64{1, 1 + r.Int64N(int64(mostHalls(g))), int64(mostHalls(g))} {
				s := valueAt(poly, x, g.P)
				for _, y := range []int64{s, (s + 1) % g.P, (s + g.P - 1) % g.P, 0, g.P - 1} {
					want := fits(g, commitments, x, y)
					if want != (s == y) {
						t.Fatalf("the oracle says %v of %v, %v, %d, %d", want, g, poly, x, y)
					}
					expectBool(t, fmt.Sprint("Fits of ", g, commitments, x, y), share.Fits(g, commitments, x, y), want)
				}
				for _, y := range []int64{s - g.P, s + g.P, -s - 1, -1, g.P, math.MaxInt64, math.MinInt64, s + g.P<<40} {
					expectBool(t, fmt.Sprint("Fits of ", g, commitments, x, y), share.Fits(g, commitments, x, y), false)
				}
			}
			for _, x := range []int64{math.MinInt64, -1, 0, 65, g.P, g.P + 1, 1 + 1<<32, math.MaxInt64} {
				y := valueAt(poly, x, g.P)
				expectBool(t, fmt.Sprint("Fits of ", g, commitments, x, y), share.Fits(g, commitments, x, y), false)
			}
		}
	}
}

// P8.2: x is less than P, and not above 64, though the number would fit.
func TestFitsOfHalls(t *testing.T) {
	for _, g := range groups() {
		commitments, _ := share.Commit(g, []int64{1, 1})
		for x := int64(-1); x < 140; x++ {
			want := x >= 1 && x <= 64 && x < g.P
			expectBool(t, fmt.Sprint("Fits of ", g, ", hall ", x), share.Fits(g, commitments, x, valueAt([]int64{1, 1}, x, g.P)), want)
		}
		for _, x := range []int64{g.P - 1, g.P, g.P + 1} {
			want := x <= 64 && x < g.P
			expectBool(t, fmt.Sprint("Fits of ", g, ", hall ", x), share.Fits(g, commitments, x, valueAt([]int64{1, 1}, x, g.P)), want)
		}
	}
}

// P8.2: commitments must be elements, 1 to 16 of them.
func TestBadCommitments(t *testing.T) {
	for _, g := range groups() {
		ones := slices.Repeat([]int64{1}, 18)
		for n := range ones {
			want := n >= 1 && n <= 16
			expectBool(t, fmt.Sprint("Fits of ", n, " commitments"), share.Fits(g, ones[:n], 1, 0), want)
		}
		expectBool(t, "Fits of many commitments", share.Fits(g, slices.Repeat([]int64{1}, 1<<20), 1, 0), false)
		for _, n := range []int{1, 2, 16} {
			for i := range n {
				for _, c := range []int64{0, -1, 1 - g.R, g.R, 1 + g.R, g.R - 1, 1 + g.R<<31, math.MaxInt64, math.MinInt64} {
					list := slices.Clone(ones[:n])
					list[i] = c
					for s := range min(g.P, 12) {
						expectBool(t, fmt.Sprint("Fits of ", g, list, ", 1, ", s), share.Fits(g, list, 1, s), false)
					}
				}
			}
		}
		// No two numbers that are no elements make a product that would fit.
		expectBool(t, fmt.Sprint("Fits of two negative numbers in ", g), share.Fits(g, []int64{g.R - 1, g.R - 1}, 1, 0), false)
		expectBool(t, fmt.Sprint("Fits of numbers below 0 in ", g), share.Fits(g, []int64{-1, -1}, 1, 0), false)
	}
}
