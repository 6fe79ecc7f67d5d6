package share

import (
	"iter"
	"slices"

	"dauber/api"
	"dauber/code"
	"dauber/field"
)

const maxBound = 15

// pairs yields each x with its share.
func pairs(xs, shares []int64) iter.Seq2[int64, int64] {
	return func(yield func(x, share int64) bool) {
		for i, x := range xs {
			if !yield(x, shares[i]) {
				return
			}
		}
	}
}

// checkShares returns ErrGroup; ErrShape if there are not as many shares as xs; ErrLong if there are not from 1 to 64; ErrArg if one is out of its range; or ErrSame if two xs are the same.
func checkShares(g Group, xs, shares []int64) api.Errno {
	if e := Check(g); e != api.OK {
		return e
	}
	switch {
	case len(xs) != len(shares):
		return api.ErrShape
	case len(xs) < 1 || len(xs) > maxHalls:
		return api.ErrLong
	}
	for x, share := range pairs(xs, shares) {
		if x == 0 || !g.areNumbers(x, share) {
			return api.ErrArg
		}
	}
	for i, x := range xs {
		if slices.Contains(xs[:i], x) {
			return api.ErrSame
		}
	}
	return api.OK
}

// ints returns numbers modulo P as elements of the field of the order P.
func ints(numbers []int64) []int {
	elements := make([]int, len(numbers))
	for i, n := range numbers {
		elements[i] = int(n)
	}
	return elements
}

// through returns the polynomial with as many coefficients as shares whose values at the xs are the shares.
func through(g Group, xs, shares []int64) []int64 {
	f, _ := field.New(int(g.P))
	short, _ := f.Through(ints(xs), ints(shares))
	poly := make([]int64, len(xs))
	for i, c := range short {
		poly[i] = int64(c)
	}
	return poly
}

// Recover returns the secret of the polynomial with as many coefficients as shares; ErrGroup; ErrShape; ErrLong; ErrArg; or ErrSame.
func Recover(g Group, xs, shares []int64) (int64, api.Errno) {
	if e := checkShares(g, xs, shares); e != api.OK {
		return 0, e
	}
	return through(g, xs, shares)[0], api.OK
}

// Poly returns the polynomial with as many coefficients as shares; ErrGroup; ErrShape; ErrLong; ErrArg; ErrSame; or ErrLong if there are more than 16.
func Poly(g Group, xs, shares []int64) ([]int64, api.Errno) {
	if e := checkShares(g, xs, shares); e != api.OK {
		return nil, e
	}
	if len(xs) > maxCoefficients {
		return nil, api.ErrLong
	}
	return through(g, xs, shares), api.OK
}

// Heal returns the secret of the polynomial with that degree bound from which at most as many shares differ as can be healed, and their places; ErrGroup; ErrShape; ErrLong; ErrArg; ErrSame; ErrArg if the bound is out of its range; or ErrFar if there is none.
func Heal(g Group, bound int, xs, shares []int64) (secret int64, liars []int, e api.Errno) {
	if e := checkShares(g, xs, shares); e != api.OK {
		return 0, nil, e
	}
	if bound < 0 || bound > maxBound || bound >= len(xs) {
		return 0, nil, api.ErrArg
	}
	// Shares are a word of a code of Reed and Solomon, whose message is the polynomial.
	c := code.Code{Order: int(g.P), Points: ints(xs), K: bound + 1}
	received := ints(shares)
	word, e := code.Decode(c, received, nil)
	if e != api.OK {
		return 0, nil, e
	}
	for i, share := range received {
		if share != word[i] {
			liars = append(liars, i)
		}
	}
	poly, _ := code.Message(c, word)
	return int64(poly[0]), liars, api.OK
}
