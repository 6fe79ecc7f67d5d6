package share

import "math/bits"

// number is a number modulo P, as secrets and shares are.
type number struct {
	value, p int64
}

func (a number) plus(b number) number {
	return number{(a.value + b.value) % a.p, a.p}
}

func (a number) minus(b number) number {
	return number{(a.value - b.value + a.p) % a.p, a.p}
}

func (a number) times(b number) number {
	return number{a.value * b.value % a.p, a.p}
}

// over returns a divided by b, which is not 0: P being a prime, the power of b by P - 2 is its inverse.
func (a number) over(b number) number {
	return a.times(power(number{1, a.p}, b, a.p-2, number.times))
}

// residue is a number modulo R, as elements of a group are. A product of two of them has at most 62 bits.
type residue struct {
	value, r int64
}

func (a residue) times(b residue) residue {
	return residue{a.value * b.value % a.r, a.r}
}

// power returns the n-th power of a, n being at least 0, by squares and products; one is the power by 0.
func power[T any](one, a T, n int64, times func(a, b T) T) T {
	result := one
	for ; n > 0; n /= 2 {
		if n%2 == 1 {
			result = times(result, a)
		}
		a = times(a, a)
	}
	return result
}

// isPrime reports whether n, which is at most maxR, is a prime. The least number that is none and passes for all of these bases is 3215031751 (Jaeschke).
func isPrime(n int64) bool {
	if n < 3 || n%2 == 0 {
		return n == 2
	}
	for _, base := range [...]int64{2, 3, 5, 7} {
		if base%n != 0 && !passes(n, base) {
			return false
		}
	}
	return true
}

// passes reports whether the power of the base by n - 1, n being odd, comes to 1 by squares as it does if n is a prime: from 1 or from -1 only (Miller, Rabin).
func passes(n, base int64) bool {
	one, minusOne := residue{1, n}, residue{n - 1, n}
	squares := bits.TrailingZeros64(uint64(n - 1))
	x := power(one, residue{base % n, n}, (n-1)>>squares, residue.times)
	if x == one {
		return true
	}
	for range squares {
		if x == minusOne {
			return true
		}
		x = x.times(x)
	}
	return false
}
