package design

import (
	"iter"
	"slices"

	"dauber/api"
)

const (
	maxCoefficient = 1000000
	maxPlace       = 1000000
	realPlace      = -1
)

// checkEquation returns ErrZero if a or b is 0, or ErrArg if one is greater than 1000000 in absolute value.
func checkEquation(a, b int64) api.Errno {
	switch {
	case a == 0 || b == 0:
		return api.ErrZero
	case a < -maxCoefficient || a > maxCoefficient || b < -maxCoefficient || b > maxCoefficient:
		return api.ErrArg
	}
	return api.OK
}

func abs(n int64) int64 {
	return max(n, -n)
}

// primes yields the primes that divide n, which is not 0, rising, and how often they do.
func primes(n int64) iter.Seq2[int64, int] {
	return func(yield func(int64, int) bool) {
		rest := abs(n)
		for p := int64(2); p*p <= rest; p++ {
			times := 0
			for ; rest%p == 0; rest /= p {
				times++
			}
			if times > 0 && !yield(p, times) {
				return
			}
		}
		if rest > 1 {
			yield(rest, 1)
		}
	}
}

func isPlace(place int) bool {
	if place < 2 || place > maxPlace {
		return place == realPlace
	}
	for p := range primes(int64(place)) {
		if p == int64(place) {
			return true
		}
	}
	return false
}

// Symbol returns the symbol of a and b at a place; ErrZero if a or b is 0; or ErrArg if one is greater than 1000000 in absolute value, or the place neither -1 nor a prime up to 1000000.
func Symbol(a, b int64, place int) (int, api.Errno) {
	if e := checkEquation(a, b); e != api.OK {
		return 0, e
	}
	if !isPlace(place) {
		return 0, api.ErrArg
	}
	return symbol(a, b, place), api.OK
}

func symbol(a, b int64, place int) int {
	switch place {
	case realPlace:
		if a < 0 && b < 0 {
			return -1
		}
		return 1
	case 2:
		return symbolAtTwo(a, b)
	}
	p := int64(place)
	i, u := split(a, p)
	j, w := split(b, p)
	return sign(i*j*(p-1)/2 + j*notSquare(u, p) + i*notSquare(w, p))
}

func symbolAtTwo(a, b int64) int {
	i, u := split(a, 2)
	j, w := split(b, 2)
	return sign((u-1)/2*((w-1)/2) + i*((w*w-1)/8) + j*((u*u-1)/8))
}

// split returns how often p divides n, and what is left of n then.
func split(n, p int64) (times, rest int64) {
	for ; n%p == 0; n /= p {
		times++
	}
	return times, n
}

// sign returns -1 to the power of n.
func sign(n int64) int {
	if n%2 == 0 {
		return 1
	}
	return -1
}

// notSquare returns 0 if n, which the odd prime p does not divide, is a square modulo p, otherwise 1 (Euler: the power of n by (p - 1) / 2 is 1 or -1).
func notSquare(n, p int64) int64 {
	power := int64(1)
	for exponent := (p - 1) / 2; exponent > 0; exponent /= 2 {
		if exponent%2 == 1 {
			power = power * n % p
		}
		n = n * n % p
	}
	if power == 1 || power == 1-p {
		return 0
	}
	return 1
}

// Places returns -1, 2 and the odd primes that divide a or b, rising; ErrZero; or ErrArg.
func Places(a, b int64) ([]int, api.Errno) {
	if e := checkEquation(a, b); e != api.OK {
		return nil, e
	}
	return places(a, b), api.OK
}

func places(a, b int64) []int {
	list := []int{realPlace, 2}
	for _, n := range [...]int64{a, b} {
		for p := range primes(n) {
			list = append(list, int(p))
		}
	}
	slices.Sort(list)
	return slices.Compact(list)
}

// Refuse returns the least place at which the symbol of a and b is -1, if Solve returns ErrNone.
func Refuse(a, b int64) (place int, ok bool) {
	if checkEquation(a, b) != api.OK {
		return 0, false
	}
	return obstacle(a, b)
}

// obstacle returns the least place at which the symbol is -1. At all places that places does not list it is 1.
func obstacle(a, b int64) (int, bool) {
	for _, place := range places(a, b) {
		if symbol(a, b, place) == -1 {
			return place, true
		}
	}
	return 0, false
}
