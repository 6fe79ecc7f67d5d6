package tally

import (
	"math"
	"math/bits"

	"dauber/api"
)

// Int is an integer. The zero value is 0.
type Int struct {
	negative bool
	words    []uint64
}

const maxPower = 10000

func signed(negative bool, words []uint64) Int {
	return Int{negative && len(words) > 0, words}
}

// Of returns n as an integer.
func Of(n int64) Int {
	if n < 0 {
		return signed(true, oneWord(-uint64(n)))
	}
	return signed(false, oneWord(uint64(n)))
}

// Parse returns the integer that has the canonical form s.
func Parse(s string) (Int, api.Errno) {
	digits, negative, ok := splitSign(s)
	if !ok {
		return Int{}, api.ErrForm
	}
	// Ten is more than two: so many digits cannot be small, and need not be read.
	if len(digits) > api.MaxBits {
		return Int{}, api.ErrSize
	}
	return yield(func() Int { return signed(negative, readDigits(digits)).small() })
}

// String returns the canonical form.
func (a Int) String() string {
	if a.negative {
		return "-" + writeDigits(a.words)
	}
	return writeDigits(a.words)
}

// Int64 returns the integer as an int64, and whether it is one.
func (a Int) Int64() (int64, bool) {
	if len(a.words) == 0 {
		return 0, true
	}
	word := a.words[0]
	switch {
	case len(a.words) > 1:
		return 0, false
	case a.negative && word <= 1<<63:
		return int64(-word), true
	case !a.negative && word <= math.MaxInt64:
		return int64(word), true
	}
	return 0, false
}

// Sign returns -1, 0 or 1.
func (a Int) Sign() int {
	switch {
	case a.negative:
		return -1
	case len(a.words) > 0:
		return 1
	}
	return 0
}

// Cmp returns the sign of a - b.
func (a Int) Cmp(b Int) int {
	switch {
	case a.negative && !b.negative:
		return -1
	case b.negative && !a.negative:
		return 1
	case a.negative:
		return compare(b.words, a.words)
	}
	return compare(a.words, b.words)
}

// Neg returns -a.
func (a Int) Neg() Int {
	return signed(!a.negative, copied(a.words))
}

// plus returns a + b, whatever its size.
func (a Int) plus(b Int) Int {
	switch {
	case a.negative == b.negative:
		return signed(a.negative, sum(a.words, b.words))
	case compare(a.words, b.words) < 0:
		return signed(b.negative, difference(b.words, a.words))
	}
	return signed(a.negative, difference(a.words, b.words))
}

// times returns a b, whatever its size.
func (a Int) times(b Int) Int {
	return signed(a.negative != b.negative, product(a.words, b.words))
}

// Add returns a + b, or ErrSize.
func (a Int) Add(b Int) (Int, api.Errno) {
	return yield(func() Int { return a.plus(b).small() })
}

// Sub returns a - b, or ErrSize.
func (a Int) Sub(b Int) (Int, api.Errno) {
	return a.Add(b.Neg())
}

// Mul returns a b, or ErrSize.
func (a Int) Mul(b Int) (Int, api.Errno) {
	return yield(func() Int { return a.times(b).small() })
}

// Div returns the q and r with a = q b + r and r from 0 to the absolute value of b less 1, or ErrZero.
func (a Int) Div(b Int) (q, r Int, e api.Errno) {
	if b.Sign() == 0 {
		return Int{}, Int{}, api.ErrZero
	}
	quotient, rest := divide(a.words, b.words)
	if a.negative && len(rest) > 0 {
		quotient = sum(quotient, oneWord(1))
		rest = difference(b.words, rest)
	}
	return signed(a.negative != b.negative, quotient), signed(false, rest), api.OK
}

// Pow returns the n-th power of a; ErrArg if n is not from 0 to 10000; or ErrSize.
func (a Int) Pow(n int) (Int, api.Errno) {
	if n < 0 || n > maxPower {
		return Int{}, api.ErrArg
	}
	return yield(func() Int {
		// From the first bit of n on, so that no power on the way is larger than the result.
		result := Of(1)
		for bit := bits.Len(uint(n)) - 1; bit >= 0; bit-- {
			result = result.times(result).small()
			if n>>bit&1 == 1 {
				result = result.times(a).small()
			}
		}
		return result
	})
}

// Gcd returns the greatest common divisor, which is at least 0.
func Gcd(a, b Int) Int {
	return signed(false, gcd(a.words, b.words))
}

// Root returns the greatest integer whose square is at most a, or ErrArg if a is negative.
func Root(a Int) (Int, api.Errno) {
	if a.negative {
		return Int{}, api.ErrArg
	}
	if a.Sign() == 0 {
		return Int{}, api.OK
	}
	// Newton's method, from above: it falls until it is at the root.
	root := shiftLeft(oneWord(1), (bitLength(a.words)+1)/2)
	for {
		quotient, _ := divide(a.words, root)
		next := shiftRight(sum(root, quotient), 1)
		if compare(next, root) >= 0 {
			return signed(false, root), api.OK
		}
		root = next
	}
}
