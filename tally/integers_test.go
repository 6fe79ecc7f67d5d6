package tally_test

import (
	"math"
	"math/big"
	"testing"

	"dauber/api"
	"dauber/tally"
)

// P1.2: all operations on random integers, against math/big.
func TestIntegersAgree(t *testing.T) {
	r := newRandom()
	for range 4000 {
		x, y := anyBig(r, 12), anyBig(r, 12)
		a, b := fromBig(x), fromBig(y)
		if a.Sign() != x.Sign() || a.Cmp(b) != x.Cmp(y) || b.Cmp(a) != y.Cmp(x) || a.Cmp(a) != 0 {
			t.Fatalf("Sign %d, Cmp %d of %s, %s", a.Sign(), a.Cmp(b), a, b)
		}
		expectInt(t, "Neg", a.Neg(), api.OK, new(big.Int).Neg(x).String())
		got, e := a.Add(b)
		expectInt(t, "Add", got, e, new(big.Int).Add(x, y).String())
		got, e = a.Sub(b)
		expectInt(t, "Sub", got, e, new(big.Int).Sub(x, y).String())
		got, e = a.Mul(b)
		expectInt(t, "Mul", got, e, new(big.Int).Mul(x, y).String())
		expectInt(t, "Gcd", tally.Gcd(a, b), api.OK, new(big.Int).GCD(nil, nil, new(big.Int).Abs(x), new(big.Int).Abs(y)).String())
	}
}

func expectDiv(t *testing.T, x, y *big.Int) {
	t.Helper()
	a, b := fromBig(x), fromBig(y)
	q, r, e := a.Div(b)
	if y.Sign() == 0 {
		expectError(t, "Div by 0: q", q, e, api.ErrZero)
		expectError(t, "Div by 0: r", r, e, api.ErrZero)
		return
	}
	quotient, rest := new(big.Int).DivMod(x, y, new(big.Int))
	expectInt(t, "Div: q", q, e, quotient.String())
	expectInt(t, "Div: r", r, e, rest.String())
}

// P1.2: Div.
func TestDiv(t *testing.T) {
	for _, x := range extremes() {
		for _, y := range extremes() {
			expectDiv(t, big.NewInt(x), big.NewInt(y))
		}
	}
	r := newRandom()
	for range 20000 {
		y := anyBig(r, 6)
		expectDiv(t, anyBig(r, 12), y)
		multiple := new(big.Int).Mul(y, anyBig(r, 6))
		for _, more := range []int64{-1, 0, 1} {
			expectDiv(t, new(big.Int).Add(multiple, big.NewInt(more)), y)
		}
	}
	top := greatest()
	least := new(big.Int).Neg(top)
	for _, y := range []*big.Int{big.NewInt(1), big.NewInt(-1), big.NewInt(2), big.NewInt(-3), powerOfTwo(64, 0), powerOfTwo(20000, -1), powerOfTwo(39999, 0), powerOfTwo(api.MaxBits, -2), top, least} {
		expectDiv(t, top, y)
		expectDiv(t, least, y)
		expectDiv(t, y, top)
		expectDiv(t, y, least)
	}
}

// P1.2: sums and differences just below and just above 2^MaxBits.
func TestAddSize(t *testing.T) {
	top, one, half := fromBig(greatest()), tally.Of(1), fromBig(powerOfTwo(api.MaxBits-1, 0))
	less := fromBig(powerOfTwo(api.MaxBits-1, -1))
	fits := func(what string, got tally.Int, e api.Errno, want tally.Int) {
		t.Helper()
		expectInt(t, what, got, e, want.String())
	}
	got, e := half.Add(less)
	fits("half + (half - 1)", got, e, top)
	got, e = half.Neg().Sub(less)
	fits("-half - (half - 1)", got, e, top.Neg())
	got, e = top.Add(tally.Of(0))
	fits("top + 0", got, e, top)
	got, e = top.Add(top.Neg())
	fits("top - top", got, e, tally.Of(0))
	got, e = top.Sub(one)
	fits("top - 1", got, e, fromBig(powerOfTwo(api.MaxBits, -2)))
	for _, pair := range [][2]tally.Int{{half, half}, {top, one}, {one, top}, {top, top}, {half.Neg(), half.Neg()}, {top.Neg(), one.Neg()}} {
		got, e = pair[0].Add(pair[1])
		expectError(t, "Add", got, e, api.ErrSize)
		got, e = pair[0].Sub(pair[1].Neg())
		expectError(t, "Sub", got, e, api.ErrSize)
	}
}

// P1.2: products just below and just above 2^MaxBits.
func TestMulSize(t *testing.T) {
	low, high := fromBig(powerOfTwo(api.MaxBits/2, -1)), fromBig(powerOfTwo(api.MaxBits/2, 1))
	got, e := low.Mul(high)
	expectInt(t, "(2^n - 1)(2^n + 1)", got, e, greatest().String())
	got, e = low.Mul(high.Neg())
	expectInt(t, "-(2^n - 1)(2^n + 1)", got, e, "-"+greatest().String())
	middle, top := fromBig(powerOfTwo(api.MaxBits/2, 0)), fromBig(greatest())
	got, e = top.Mul(tally.Of(-1))
	expectInt(t, "-top", got, e, "-"+greatest().String())
	got, e = top.Mul(tally.Of(0))
	expectInt(t, "top 0", got, e, "0")
	for _, pair := range [][2]tally.Int{{middle, middle}, {middle.Neg(), middle}, {high, middle}, {top, tally.Of(2)}, {tally.Of(-2), top}, {top, top}} {
		got, e = pair[0].Mul(pair[1])
		expectError(t, "Mul", got, e, api.ErrSize)
	}
}

// P1.2: Pow.
func TestPow(t *testing.T) {
	for _, a := range extremes() {
		for n := range 40 {
			got, e := tally.Of(a).Pow(n)
			expectInt(t, "Pow", got, e, new(big.Int).Exp(big.NewInt(a), big.NewInt(int64(n)), nil).String())
		}
	}
	for _, c := range [][2]int64{{0, 0}, {0, 1}, {0, 10000}, {1, 10000}, {-1, 9999}, {-1, 10000}, {2, 10000}, {-2, 9999}, {15, 10000}, {-15, 9999}} {
		got, e := tally.Of(c[0]).Pow(int(c[1]))
		expectInt(t, "Pow", got, e, new(big.Int).Exp(big.NewInt(c[0]), big.NewInt(c[1]), nil).String())
	}
	for _, n := range []int{-1, -10000, 10001, math.MinInt, math.MaxInt} {
		for _, a := range []int64{0, 1, 2} {
			got, e := tally.Of(a).Pow(n)
			expectError(t, "Pow", got, e, api.ErrArg)
		}
	}
}

// P1.2: powers just below and just above 2^MaxBits; those on the way to the result do not count.
func TestPowSize(t *testing.T) {
	top := fromBig(greatest())
	got, e := top.Pow(1)
	expectInt(t, "top^1", got, e, greatest().String())
	got, e = top.Pow(0)
	expectInt(t, "top^0", got, e, "1")
	got, e = fromBig(powerOfTwo(13333, 0)).Pow(3)
	expectInt(t, "(2^13333)^3", got, e, powerOfTwo(39999, 0).String())
	got, e = fromBig(powerOfTwo(13333, 0)).Neg().Pow(3)
	expectInt(t, "(-2^13333)^3", got, e, new(big.Int).Neg(powerOfTwo(39999, 0)).String())
	for a, n := range map[int64]int{16: 10000, 17: 10000, -16: 10000, 1 << 40: 1000, -1 << 40: 1000, math.MinInt64: 635, 3: 0} {
		if n > 0 {
			got, e = tally.Of(a).Pow(n)
			expectError(t, "Pow", got, e, api.ErrSize)
		}
	}
	got, e = tally.Of(math.MinInt64).Pow(634)
	expectInt(t, "(-2^63)^634", got, e, powerOfTwo(63*634, 0).String())
	for _, n := range []int{2, 3, 10000} {
		got, e = top.Pow(n)
		expectError(t, "Pow", got, e, api.ErrSize)
	}
	got, e = fromBig(powerOfTwo(20000, 0)).Pow(2)
	expectError(t, "(2^20000)^2", got, e, api.ErrSize)
	got, e = fromBig(powerOfTwo(20000, -1)).Pow(2)
	expectInt(t, "(2^20000 - 1)^2", got, e, new(big.Int).Exp(powerOfTwo(20000, -1), big.NewInt(2), nil).String())
}

// P1.2: Gcd of integers with a large common divisor, of consecutive Fibonacci numbers (the most steps), of 0, and of one that divides the other.
func TestGcd(t *testing.T) {
	expect := func(x, y *big.Int) {
		t.Helper()
		want := new(big.Int).GCD(nil, nil, new(big.Int).Abs(x), new(big.Int).Abs(y)).String()
		expectInt(t, "Gcd", tally.Gcd(fromBig(x), fromBig(y)), api.OK, want)
		expectInt(t, "Gcd", tally.Gcd(fromBig(y), fromBig(x)), api.OK, want)
	}
	for _, x := range extremes() {
		for _, y := range extremes() {
			expect(big.NewInt(x), big.NewInt(y))
		}
	}
	r := newRandom()
	for range 5000 {
		common, x, y := anyBig(r, 5), anyBig(r, 8), anyBig(r, 8)
		expect(new(big.Int).Mul(common, x), new(big.Int).Mul(common, y))
		expect(x, new(big.Int).Mul(x, y))
		expect(x, new(big.Int).Add(x, big.NewInt(1)))
	}
	x, y := big.NewInt(1), big.NewInt(1)
	for range 3000 {
		x, y = y, new(big.Int).Add(x, y)
		expect(x, y)
	}
	top := greatest()
	expect(top, new(big.Int))
	expect(top, top)
	expect(top, powerOfTwo(20000, -1))
	expect(top, powerOfTwo(api.MaxBits, -2))
	expect(new(big.Int).Neg(top), powerOfTwo(30000, -1))
}

// P1.2: Root.
func TestRoot(t *testing.T) {
	expect := func(x *big.Int) {
		t.Helper()
		got, e := tally.Root(fromBig(x))
		expectInt(t, "Root", got, e, new(big.Int).Sqrt(x).String())
	}
	for n := range int64(2000) {
		expect(big.NewInt(n))
	}
	r := newRandom()
	for range 2000 {
		root := anyBig(r, 6)
		square := new(big.Int).Mul(root, root)
		expect(square)
		expect(new(big.Int).Add(square, big.NewInt(1)))
		if square.Sign() > 0 {
			expect(new(big.Int).Sub(square, big.NewInt(1)))
		}
	}
	expect(greatest())
	expect(powerOfTwo(39998, 0))
	expect(powerOfTwo(39998, -1))
	expect(big.NewInt(math.MaxInt64))
	for _, s := range []string{"-1", "-4", "-9223372036854775808", "-" + greatest().String()} {
		got, e := tally.Root(integer(s))
		expectError(t, "Root", got, e, api.ErrArg)
	}
}
