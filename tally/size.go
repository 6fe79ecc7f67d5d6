package tally

import "dauber/api"

// tooLarge is the panic of a calculation whose result is not small.
type tooLarge struct{}

func isSmall(words []uint64) bool {
	return bitLength(words) <= api.MaxBits
}

// small returns the integer, or panics if it is not small.
func (a Int) small() Int {
	if !isSmall(a.words) {
		panic(tooLarge{})
	}
	return a
}

// small returns the fraction, or panics if it is not small.
func (r Rat) small() Rat {
	if !isSmall(r.over.words) || !isSmall(r.under) {
		panic(tooLarge{})
	}
	return r
}

// yield returns the result of a calculation, or ErrSize if it panics.
func yield[N Int | Rat](calculate func() N) (result N, e api.Errno) {
	defer func() {
		if recover() != nil {
			var zero N
			result, e = zero, api.ErrSize
		}
	}()
	return calculate(), api.OK
}
