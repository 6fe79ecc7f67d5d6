package chance

import (
	"dauber/api"
	"dauber/tally"
)

// long is an integer that may be too large for tally: the sum of its parts, each times a power of a base; the first part times 1. All parts are less than the base in absolute value, so that the last one has the sign of the integer; it is 0 only if the integer is.
type long []tally.Int

// longs calculates with long integers.
type longs struct {
	base tally.Int
}

// Products of two parts, and sums of many of them, are far from 2^api.MaxBits.
const partBits = api.MaxBits / 4

func newLongs() longs {
	base, _ := tally.Of(2).Pow(partBits)
	return longs{base}
}

func (s longs) of(a tally.Int) long {
	return s.leveled([]tally.Int{a})
}

func (s longs) isPart(a tally.Int) bool {
	return a.Cmp(s.base) < 0 && a.Neg().Cmp(s.base) < 0
}

// leveled makes a long integer of one or more sums, which may be too large for parts. The sums are changed.
func (s longs) leveled(sums []tally.Int) long {
	for i := 0; i < len(sums); i++ {
		if s.isPart(sums[i]) {
			continue
		}
		if i+1 == len(sums) {
			sums = append(sums, tally.Int{})
		}
		carry, part, _ := sums[i].Div(s.base)
		sums[i] = part
		sums[i+1], _ = sums[i+1].Add(carry)
	}
	n := len(sums)
	for n > 1 && sums[n-1].Sign() == 0 {
		n--
	}
	return sums[:n]
}

func (s longs) difference(a, b long) long {
	sums := make([]tally.Int, max(len(a), len(b)))
	copy(sums, a)
	for i, part := range b {
		sums[i], _ = sums[i].Sub(part)
	}
	return s.leveled(sums)
}

func (s longs) product(a, b long) long {
	sums := make([]tally.Int, len(a)+len(b)-1)
	for i, x := range a {
		for j, y := range b {
			product, _ := x.Mul(y)
			sums[i+j], _ = sums[i+j].Add(product)
		}
	}
	return s.leveled(sums)
}

// overOne returns the numerators of fractions over one denominator, and that.
func (s longs) overOne(list []tally.Rat) (over []long, under long) {
	under = s.of(tally.Of(1))
	for _, r := range list {
		denominator := s.of(r.Den())
		for i, x := range over {
			over[i] = s.product(x, denominator)
		}
		over = append(over, s.product(s.of(r.Num()), under))
		under = s.product(under, denominator)
	}
	return over, under
}

func (a long) sign() int {
	return a[len(a)-1].Sign()
}
