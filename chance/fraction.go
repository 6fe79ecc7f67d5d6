package chance

import (
	"strings"

	"dauber/tally"
)

// No fraction that the package calculates is too large for tally, so that the errors of its operations need not be looked at.
//
// In a row of chances with the sum 1, a power of a prime that divides one denominator divides two of them: the least common one of 16 is less than 10^320. The numbers of an elimination are quotients of two determinants of at most 15 such rows, with 16 rewards of 40 digits more, and have less than 17000 bits. Sums of products of two of them have at most twice as many, and a little more; tally has room for 40000.

func plus(a, b tally.Rat) tally.Rat {
	sum, _ := a.Add(b)
	return sum
}

func minus(a, b tally.Rat) tally.Rat {
	difference, _ := a.Sub(b)
	return difference
}

func times(a, b tally.Rat) tally.Rat {
	product, _ := a.Mul(b)
	return product
}

// ratio returns a divided by b, which is not 0.
func ratio(a, b int) tally.Rat {
	quotient, _ := tally.Ratio(int64(a), int64(b))
	return quotient
}

// alternating returns the first term less the second one, plus the third one, and so on.
func alternating(terms ...tally.Rat) tally.Rat {
	var total tally.Rat
	for i, term := range terms {
		if i%2 == 1 {
			term = term.Neg()
		}
		total = plus(total, term)
	}
	return total
}

const maxDigits = 40

// isShort reports whether the numerator and the denominator have at most 40 digits.
func isShort(r tally.Rat) bool {
	return digits(r.Num()) <= maxDigits && digits(r.Den()) <= maxDigits
}

func digits(a tally.Int) int {
	return len(strings.TrimPrefix(a.String(), "-"))
}

func areShort(list []tally.Rat) bool {
	for _, r := range list {
		if !isShort(r) {
			return false
		}
	}
	return true
}
