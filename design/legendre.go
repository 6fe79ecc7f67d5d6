package design

import (
	"dauber/api"
	"dauber/tally"
)

// Solve returns a solution of z^2 = a x^2 + b y^2 without a common divisor; ErrZero if a or b is 0; ErrArg if one is greater than 1000000 in absolute value; or ErrNone if there is no solution.
func Solve(a, b int64) (x, y, z tally.Int, e api.Errno) {
	if e := checkEquation(a, b); e != api.OK {
		return x, y, z, e
	}
	if _, is := obstacle(a, b); is {
		return x, y, z, api.ErrNone
	}
	x, y, z = solution(a, b)
	return x, y, z, api.OK
}

// solution returns a solution of an equation whose symbols are all 1.
func solution(a, b int64) (x, y, z tally.Int) {
	restA, rootA := withoutSquare(a)
	restB, rootB := withoutSquare(b)
	x, y, z = descend(restA, restB)
	x = times(rootB, x)
	y = times(rootA, y)
	z = times(rootA*rootB, z)
	common := tally.Gcd(tally.Gcd(x, y), z)
	return reduced(x, common), reduced(y, common), reduced(z, common)
}

// withoutSquare returns the rest without a square factor, and the root of the square by which n is its multiple.
func withoutSquare(n int64) (rest, root int64) {
	rest, root = n, 1
	for p, power := range primes(n) {
		for range power / 2 {
			rest /= p * p
			root *= p
		}
	}
	return rest, root
}

// descend returns a solution of an equation whose symbols are all 1, for a and b without square factors.
//
// Let b be the greater one in absolute value. Then a is t^2 modulo b for a t up to b / 2, so that t^2 - a = b c m^2 with a lesser c than b, and for a and c there is a solution, too. The product of t^2 - a and z^2 - a x^2 is (t z + a x)^2 - a (t x + z)^2 (Brahmagupta), and it is b (c m y)^2.
func descend(a, b int64) (x, y, z tally.Int) {
	var solve func(a, b int64)
	solve = func(a, b int64) {
		switch {
		case a == 1:
			x, y, z = tally.Of(1), tally.Of(0), tally.Of(1)
		case abs(a) > abs(b):
			solve(b, a)
			x, y = y, x
		case b == 1:
			x, y, z = tally.Of(0), tally.Of(1), tally.Of(1)
		default:
			t := rootModulo(a, abs(b))
			c, m := withoutSquare((t*t - a) / b)
			solve(a, c)
			x, y, z = plus(times(t, x), z), times(c*m, y), plus(times(t, z), times(a, x))
		}
	}
	solve(a, b)
	return x, y, z
}

// rootModulo returns the least number whose square is a modulo n; there is one.
func rootModulo(a, n int64) int64 {
	root, left := int64(0), a%n // left is a less the square of root, modulo n
	for left != 0 {
		left = (left - 2*root - 1) % n
		root++
	}
	return root
}

func times(n int64, x tally.Int) tally.Int {
	product, _ := tally.Of(n).Mul(x)
	return product
}

func plus(x, y tally.Int) tally.Int {
	sum, _ := x.Add(y)
	return sum
}

func reduced(x, divisor tally.Int) tally.Int {
	quotient, _, _ := x.Div(divisor)
	return quotient
}
