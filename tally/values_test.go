package tally_test

import (
	"math"
	"reflect"
	"testing"

	"dauber/api"
	"dauber/tally"
)

// R5: the zero values are 0.
func TestZeroValues(t *testing.T) {
	var a tally.Int
	var r tally.Rat
	if a.String() != "0" || a.Sign() != 0 || a.Cmp(tally.Of(0)) != 0 || a.Neg().String() != "0" {
		t.Errorf("the zero value of Int: %s", a)
	}
	if r.String() != "0" || r.Sign() != 0 || r.Num().String() != "0" || r.Den().String() != "1" || r.Neg().String() != "0" {
		t.Errorf("the zero value of Rat: %s, %s, %s", r, r.Num(), r.Den())
	}
	zero, _ := tally.Ratio(0, -5)
	if r.Cmp(zero) != 0 || zero.Cmp(r) != 0 {
		t.Errorf("the zero value of Rat is not 0 / -5")
	}
}

// everyResult makes all calls of two numbers, and returns the integers and the fractions among the results.
func everyResult(a, b tally.Int) (integers []tally.Int, fractions []tally.Rat) {
	keep := func(n tally.Int, e api.Errno) { integers = append(integers, n) }
	keepRat := func(r tally.Rat, e api.Errno) { fractions = append(fractions, r) }
	keep(tally.Parse(a.String()))
	keep(a.Neg(), api.OK)
	keep(a.Add(b))
	keep(a.Sub(b))
	keep(a.Mul(b))
	quotient, rest, e := a.Div(b)
	keep(quotient, e)
	keep(rest, e)
	keep(a.Pow(3))
	keep(tally.Gcd(a, b), api.OK)
	keep(tally.Root(a))
	small, _ := a.Int64()
	other, _ := b.Int64()
	keep(tally.Of(small), api.OK)
	keep(tally.Choose(int(small), int(other)))
	keep(tally.Factorial(int(small)))
	keepRat(tally.Ratio(small, other))
	keepRat(tally.Make(a, b))
	r, _ := tally.Make(a, tally.Of(7))
	s, _ := tally.Make(b, tally.Of(-6))
	keep(r.Num(), api.OK)
	keep(r.Den(), api.OK)
	keepRat(tally.ParseRat(r.String()))
	keepRat(r.Neg(), api.OK)
	keepRat(r.Add(s))
	keepRat(r.Sub(s))
	keepRat(r.Mul(s))
	keepRat(r.Quo(s))
	_, _, _, _ = r.Cmp(s), r.Sign(), a.Cmp(b), a.Sign()
	return integers, fractions
}

// P1, R4, R7: no call panics or changes its arguments, and calls done again have the same results.
func TestCallsLeaveArguments(t *testing.T) {
	var all []tally.Int
	for _, n := range extremes() {
		all = append(all, tally.Of(n))
	}
	all = append(all, tally.Int{}, fromBig(greatest()), fromBig(greatest()).Neg(), fromBig(powerOfTwo(20000, 0)), tally.Of(1000), tally.Of(1001))
	for _, a := range all {
		for _, b := range all {
			before, other := a.String(), b.String()
			integers, fractions := everyResult(a, b)
			again, fractionsAgain := everyResult(a, b)
			if a.String() != before || b.String() != other {
				t.Fatalf("changed: %.40s, %.40s", before, other)
			}
			if !reflect.DeepEqual(integers, again) || !reflect.DeepEqual(fractions, fractionsAgain) {
				t.Errorf("not the same again: %.40s, %.40s", before, other)
			}
		}
	}
}

// P1: strings of any bytes.
func TestStringsOfAnyBytes(t *testing.T) {
	r := newRandom()
	letters := []byte("0123456789-+/ ./x\x00\xff")
	for range 200000 {
		s := make([]byte, r.IntN(6))
		for i := range s {
			s[i] = letters[r.IntN(len(letters))]
		}
		if a, e := tally.Parse(string(s)); e == api.OK && a.String() != string(s) || e != api.OK && e != api.ErrForm {
			t.Fatalf("Parse(%q): %s, %d", s, a, e)
		}
		if a, e := tally.ParseRat(string(s)); e == api.OK && a.String() != string(s) || e != api.OK && e != api.ErrForm {
			t.Fatalf("ParseRat(%q): %s, %d", s, a, e)
		}
	}
}

// P1: arguments of the type int that are far outside their range.
func TestIntsOutOfRange(t *testing.T) {
	for _, n := range []int{math.MinInt, math.MinInt + 1, -1, math.MaxInt - 1, math.MaxInt} {
		_, e := tally.Factorial(n)
		_, f := tally.Choose(n, n)
		_, g := tally.Of(3).Pow(n)
		if e != api.ErrArg || f != api.ErrArg || g != api.ErrArg {
			t.Errorf("%d: %d, %d, %d", n, e, f, g)
		}
	}
}
