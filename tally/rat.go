package tally

import (
	"strings"

	"dauber/api"
)

// Rat is a fraction. The zero value is 0.
type Rat struct {
	over  Int
	under []uint64 // no words stand for the denominator 1, so that the zero value is 0
}

// lowest returns over divided by under, which is greater than 0, in lowest terms.
func lowest(over Int, under []uint64) Rat {
	common := gcd(over.words, under)
	numerator, _ := divide(over.words, common)
	denominator, _ := divide(under, common)
	if compare(denominator, oneWord(1)) == 0 {
		denominator = nil
	}
	return Rat{signed(over.negative, numerator), denominator}
}

func (r Rat) denominator() []uint64 {
	if len(r.under) == 0 {
		return oneWord(1)
	}
	return copied(r.under)
}

// Ratio returns a divided by b, or ErrZero.
func Ratio(a, b int64) (Rat, api.Errno) {
	return Make(Of(a), Of(b))
}

// Make returns a divided by b, or ErrZero.
func Make(a, b Int) (Rat, api.Errno) {
	if b.Sign() == 0 {
		return Rat{}, api.ErrZero
	}
	return lowest(signed(a.negative != b.negative, a.words), b.words), api.OK
}

// ParseRat returns the fraction that has the canonical form s.
func ParseRat(s string) (Rat, api.Errno) {
	before, after, divided := strings.Cut(s, "/")
	if !divided {
		n, e := Parse(s)
		return Rat{over: n}, e
	}
	over, negative, ok := splitSign(before)
	if !ok {
		return Rat{}, api.ErrForm
	}
	under, signedToo, ok := splitSign(after)
	if !ok || signedToo || under == "0" || under == "1" {
		return Rat{}, api.ErrForm
	}
	// Numbers that are not small are read too: whether they have a common divisor decides between ErrForm and ErrSize.
	r := Rat{signed(negative, readDigits(over)), readDigits(under)}
	if compare(gcd(r.over.words, r.under), oneWord(1)) != 0 {
		return Rat{}, api.ErrForm
	}
	return yield(r.small)
}

// String returns the canonical form.
func (r Rat) String() string {
	if len(r.under) == 0 {
		return r.over.String()
	}
	return r.over.String() + "/" + writeDigits(r.under)
}

// Num returns the numerator.
func (r Rat) Num() Int {
	return signed(r.over.negative, copied(r.over.words))
}

// Den returns the denominator.
func (r Rat) Den() Int {
	return signed(false, r.denominator())
}

// Sign returns -1, 0 or 1.
func (r Rat) Sign() int {
	return r.over.Sign()
}

// crossed returns the numerators of r and of s over the product of both denominators.
func (r Rat) crossed(s Rat) (first, second Int) {
	return r.over.times(s.Den()), s.over.times(r.Den())
}

// Cmp returns the sign of r - s.
func (r Rat) Cmp(s Rat) int {
	first, second := r.crossed(s)
	return first.Cmp(second)
}

// Neg returns -r.
func (r Rat) Neg() Rat {
	return Rat{r.over.Neg(), copied(r.under)}
}

// Add returns r + s, or ErrSize.
func (r Rat) Add(s Rat) (Rat, api.Errno) {
	return yield(func() Rat {
		first, second := r.crossed(s)
		return lowest(first.plus(second), product(r.denominator(), s.denominator())).small()
	})
}

// Sub returns r - s, or ErrSize.
func (r Rat) Sub(s Rat) (Rat, api.Errno) {
	return r.Add(s.Neg())
}

// Mul returns r s, or ErrSize.
func (r Rat) Mul(s Rat) (Rat, api.Errno) {
	return yield(func() Rat {
		return lowest(r.over.times(s.over), product(r.denominator(), s.denominator())).small()
	})
}

// Quo returns r divided by s, or ErrZero, or ErrSize.
func (r Rat) Quo(s Rat) (Rat, api.Errno) {
	if s.Sign() == 0 {
		return Rat{}, api.ErrZero
	}
	return r.Mul(s.inverse())
}

// inverse returns 1 divided by r, which is not 0.
func (r Rat) inverse() Rat {
	return lowest(signed(r.over.negative, r.denominator()), r.over.words)
}
