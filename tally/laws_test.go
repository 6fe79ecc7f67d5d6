package tally_test

import (
	"testing"

	"dauber/api"
	"dauber/tally"
)

// number is what integers and fractions have in common.
type number[N any] interface {
	Add(N) (N, api.Errno)
	Sub(N) (N, api.Errno)
	Mul(N) (N, api.Errno)
	Neg() N
	Cmp(N) int
	Sign() int
	String() string
}

// laws checks the laws of an ordered commutative ring for three of its elements.
func laws[N number[N]](t *testing.T, a, b, c, zero, one N) {
	t.Helper()
	same := func(law string, x, y N) {
		t.Helper()
		if x.Cmp(y) != 0 || x.String() != y.String() {
			t.Errorf("%s: %s and %s", law, x, y)
		}
	}
	same("a + b", must(a.Add(b)), must(b.Add(a)))
	same("a b", must(a.Mul(b)), must(b.Mul(a)))
	same("(a + b) + c", must(must(a.Add(b)).Add(c)), must(a.Add(must(b.Add(c)))))
	same("(a b) c", must(must(a.Mul(b)).Mul(c)), must(a.Mul(must(b.Mul(c)))))
	same("a (b + c)", must(a.Mul(must(b.Add(c)))), must(must(a.Mul(b)).Add(must(a.Mul(c)))))
	same("a + 0", must(a.Add(zero)), a)
	same("1 a", must(one.Mul(a)), a)
	same("0 a", must(zero.Mul(a)), zero)
	same("a - a", must(a.Add(a.Neg())), zero)
	same("a - b", must(a.Sub(b)), must(a.Add(b.Neg())))
	same("-(-a)", a.Neg().Neg(), a)
	if a.Cmp(b) != must(a.Sub(b)).Sign() || a.Cmp(b) != -b.Cmp(a) || a.Cmp(zero) != a.Sign() {
		t.Errorf("order of %s and %s", a, b)
	}
	if a.Cmp(b) != must(a.Add(c)).Cmp(must(b.Add(c))) {
		t.Errorf("a < b, a + c < b + c: %s, %s, %s", a, b, c)
	}
	if a.Cmp(b)*c.Sign() != must(a.Mul(c)).Cmp(must(b.Mul(c))) {
		t.Errorf("a < b, a c < b c: %s, %s, %s", a, b, c)
	}
	if a.Cmp(b) <= 0 && b.Cmp(c) <= 0 && a.Cmp(c) > 0 {
		t.Errorf("a <= b <= c: %s, %s, %s", a, b, c)
	}
}

// P1.5: integers are an ordered commutative ring.
func TestIntegerLaws(t *testing.T) {
	r := newRandom()
	for range 1500 {
		a, b, c := fromBig(anyBig(r, 5)), fromBig(anyBig(r, 5)), fromBig(anyBig(r, 5))
		laws(t, a, b, c, tally.Int{}, tally.Of(1))
		laws(t, a, a, b, tally.Int{}, tally.Of(1))
	}
	for _, x := range extremes() {
		for _, y := range extremes() {
			laws(t, tally.Of(x), tally.Of(y), tally.Of(x), tally.Int{}, tally.Of(1))
		}
	}
}

// P1.5: fractions are an ordered field.
func TestFractionLaws(t *testing.T) {
	random := newRandom()
	one, _ := tally.Ratio(1, 1)
	for range 700 {
		r, s, u := fraction(canonical(anyRat(random, 3))), fraction(canonical(anyRat(random, 3))), fraction(canonical(anyRat(random, 3)))
		laws(t, r, s, u, tally.Rat{}, one)
		laws(t, r, r, s, tally.Rat{}, one)
		if s.Sign() == 0 {
			continue
		}
		inverse, e := one.Quo(s)
		product, f := s.Mul(inverse)
		expectRat(t, "s / s", product, max(e, f), "1")
		quotient, e := r.Quo(s)
		product, f = quotient.Mul(s)
		expectRat(t, "(r / s) s", product, max(e, f), r.String())
	}
}

// P1.5: the order of fractions with denominator 1 is that of the integers.
func TestOrdersAgree(t *testing.T) {
	for _, x := range extremes() {
		for _, y := range extremes() {
			r, _ := tally.Ratio(x, 1)
			s, _ := tally.Ratio(y, 1)
			if r.Cmp(s) != tally.Of(x).Cmp(tally.Of(y)) {
				t.Errorf("%d, %d: %d", x, y, r.Cmp(s))
			}
		}
	}
}
