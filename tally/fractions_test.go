package tally_test

import (
	"math"
	"math/big"
	"math/rand/v2"
	"testing"

	"dauber/api"
	"dauber/tally"
)

// canonical is the canonical form of a fraction of math/big.
func canonical(r *big.Rat) string {
	return r.RatString()
}

func anyRat(r *rand.Rand, words int) *big.Rat {
	under := anyBig(r, words)
	if under.Sign() == 0 {
		under.SetInt64(1)
	}
	return new(big.Rat).SetFrac(anyBig(r, words), under)
}

// P1.4: Ratio.
func TestRatio(t *testing.T) {
	for _, a := range extremes() {
		for _, b := range extremes() {
			got, e := tally.Ratio(a, b)
			if b == 0 {
				expectError(t, "Ratio", got, e, api.ErrZero)
				continue
			}
			expectRat(t, "Ratio", got, e, canonical(new(big.Rat).SetFrac(big.NewInt(a), big.NewInt(b))))
		}
	}
}

// P1.4: Make, Num, Den and Sign: lowest terms, and a denominator greater than 0.
func TestMake(t *testing.T) {
	r := newRandom()
	for range 3000 {
		x, y, common := anyBig(r, 5), anyBig(r, 5), anyBig(r, 3)
		x.Mul(x, common)
		y.Mul(y, common)
		got, e := tally.Make(fromBig(x), fromBig(y))
		if y.Sign() == 0 {
			expectError(t, "Make", got, e, api.ErrZero)
			continue
		}
		want := new(big.Rat).SetFrac(x, y)
		expectRat(t, "Make", got, e, canonical(want))
		expectInt(t, "Num", got.Num(), api.OK, want.Num().String())
		expectInt(t, "Den", got.Den(), api.OK, want.Denom().String())
		if got.Sign() != want.Sign() {
			t.Errorf("Sign of %s: %d", got, got.Sign())
		}
	}
	top := fromBig(greatest())
	for _, pair := range [][2]tally.Int{{top, top.Neg()}, {top.Neg(), top}} {
		got, e := tally.Make(pair[0], pair[1])
		expectRat(t, "Make", got, e, "-1")
		expectInt(t, "Den", got.Den(), api.OK, "1")
	}
	got, e := tally.Make(tally.Of(0), top.Neg())
	expectRat(t, "Make", got, e, "0")
	expectInt(t, "Den of 0", got.Den(), api.OK, "1")
	got, e = tally.Make(top, tally.Int{})
	expectError(t, "Make", got, e, api.ErrZero)
	got, e = tally.Make(tally.Int{}, tally.Int{})
	expectError(t, "Make", got, e, api.ErrZero)
}

// P1.4: all operations on random fractions, against math/big.
func TestFractionsAgree(t *testing.T) {
	random := newRandom()
	for i := range 3000 {
		x, y := anyRat(random, 4), anyRat(random, 4)
		if i%4 == 0 { // the same denominator, so that sums have common divisors
			y = new(big.Rat).Sub(new(big.Rat).SetInt(anyBig(random, 2)), x)
		}
		r, s := fraction(canonical(x)), fraction(canonical(y))
		if r.Cmp(s) != x.Cmp(y) || s.Cmp(r) != y.Cmp(x) || r.Cmp(r) != 0 {
			t.Fatalf("Cmp of %s, %s: %d", r, s, r.Cmp(s))
		}
		expectRat(t, "Neg", r.Neg(), api.OK, canonical(new(big.Rat).Neg(x)))
		got, e := r.Add(s)
		expectRat(t, "Add", got, e, canonical(new(big.Rat).Add(x, y)))
		got, e = r.Sub(s)
		expectRat(t, "Sub", got, e, canonical(new(big.Rat).Sub(x, y)))
		got, e = r.Mul(s)
		expectRat(t, "Mul", got, e, canonical(new(big.Rat).Mul(x, y)))
		got, e = r.Quo(s)
		if y.Sign() == 0 {
			expectError(t, "Quo", got, e, api.ErrZero)
			continue
		}
		expectRat(t, "Quo", got, e, canonical(new(big.Rat).Quo(x, y)))
	}
}

// P1.4: Quo by 0.
func TestQuoZero(t *testing.T) {
	for _, s := range []string{"0", "1", "-1/2", greatest().String()} {
		got, e := fraction(s).Quo(tally.Rat{})
		expectError(t, "Quo", got, e, api.ErrZero)
	}
}

// P1.4: results that are small although numbers on the way to them are not.
func TestFractionsSmallAgain(t *testing.T) {
	top, next := greatest(), powerOfTwo(api.MaxBits, -2)
	x := new(big.Rat).SetFrac(next, top)
	r, inverse := fraction(canonical(x)), fraction(canonical(new(big.Rat).Inv(x)))
	got, e := r.Mul(inverse)
	expectRat(t, "x / x", got, e, "1")
	got, e = r.Quo(r.Neg())
	expectRat(t, "x / -x", got, e, "-1")
	got, e = r.Sub(r)
	expectRat(t, "x - x", got, e, "0")
	got, e = r.Add(fraction("1/" + top.String()))
	expectRat(t, "x + 1 / top", got, e, "1")
	got, e = inverse.Sub(fraction("1/" + next.String()))
	expectRat(t, "1 / x - 1 / next", got, e, "1")
	got, e = r.Add(tally.Rat{})
	expectRat(t, "x + 0", got, e, canonical(x))
	if r.Cmp(inverse) != -1 || inverse.Cmp(r) != 1 || r.Neg().Cmp(inverse.Neg()) != 1 || r.Cmp(r) != 0 {
		t.Errorf("Cmp of fractions near 1")
	}
}

// P1.4: results just above 2^MaxBits, in the numerator or in the denominator.
func TestFractionsSize(t *testing.T) {
	half := powerOfTwo(api.MaxBits-1, 0).String()
	root := powerOfTwo(api.MaxBits/2, 0).String()
	top := fraction(greatest().String())
	under := fraction("1/" + greatest().String())
	type call struct {
		name string
		of   func(tally.Rat) (tally.Rat, api.Errno)
		by   tally.Rat
	}
	for _, c := range []call{
		{"half + half", fraction(half).Add, fraction(half)},
		{"-half - half", fraction("-" + half).Sub, fraction(half)},
		{"top + 1", top.Add, fraction("1")},
		{"top + 1/2", top.Add, fraction("1/2")},
		{"1/top + 1/2", under.Add, fraction("1/2")},
		{"1/top - 2", under.Sub, fraction("2")},
		{"root root", fraction(root).Mul, fraction(root)},
		{"1/root 1/root", fraction("1/" + root).Mul, fraction("1/" + root)},
		{"top 2/7", top.Mul, fraction("2/7")},
		{"root / (1 / root)", fraction(root).Quo, fraction("1/" + root)},
		{"(1 / root) / root", fraction("1/" + root).Quo, fraction(root)},
		{"top / (1/2)", top.Quo, fraction("1/2")},
		{"(1 / top) / 2", under.Quo, fraction("2")},
	} {
		got, e := c.of(c.by)
		expectError(t, c.name, got, e, api.ErrSize)
	}
}

// P1.4: results just below 2^MaxBits, in the numerator or in the denominator.
func TestFractionsFit(t *testing.T) {
	half, less := powerOfTwo(api.MaxBits-1, 0).String(), powerOfTwo(api.MaxBits-1, -1).String()
	low, high := powerOfTwo(api.MaxBits/2, -1).String(), powerOfTwo(api.MaxBits/2, 1).String()
	top := greatest().String()
	got, e := fraction(half).Add(fraction(less))
	expectRat(t, "half + (half - 1)", got, e, top)
	got, e = fraction("-" + half + "/3").Sub(fraction(less + "/3"))
	expectRat(t, "-half/3 - (half - 1)/3", got, e, canonical(new(big.Rat).SetFrac(new(big.Int).Neg(greatest()), big.NewInt(3))))
	got, e = fraction(low).Mul(fraction(high))
	expectRat(t, "low high", got, e, top)
	got, e = fraction("1/" + low).Mul(fraction("-1/" + high))
	expectRat(t, "1/low -1/high", got, e, "-1/"+top)
	got, e = fraction(low).Quo(fraction("1/" + high))
	expectRat(t, "low / (1/high)", got, e, top)
	got, e = fraction("1/" + low).Quo(fraction("-" + high))
	expectRat(t, "(1/low) / -high", got, e, "-1/"+top)
}

// P1.4: fractions of the least int64, whose negative is no int64.
func TestLeastInt64(t *testing.T) {
	r, _ := tally.Ratio(math.MinInt64, 1)
	expectRat(t, "Neg", r.Neg(), api.OK, "9223372036854775808")
	got, e := tally.Ratio(1, math.MinInt64)
	expectRat(t, "Ratio", got, e, "-1/9223372036854775808")
	got, e = got.Quo(r)
	expectRat(t, "Quo", got, e, "1/85070591730234615865843651857942052864")
}
