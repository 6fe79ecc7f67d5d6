package chance_test

import (
	"fmt"
	"math/big"
	"math/rand/v2"
	"slices"
	"testing"

	"dauber/api"
	"dauber/chance"
	"dauber/tally"
)

// expectProofs compares IsUpper and IsLower of a list with the definitions.
func expectProofs(t *testing.T, what string, p [][]tally.Rat, h []tally.Rat) (upper, lower bool) {
	t.Helper()
	c, list := toChain(p), toBigs(h)
	upper, lower = c.isUpper(list), c.isLower(list)
	if got := chance.IsUpper(p, h); got != upper {
		t.Errorf("IsUpper of %s, %v: %v", what, shortened(h), got)
	}
	if got := chance.IsLower(p, h); got != lower {
		t.Errorf("IsLower of %s, %v: %v", what, shortened(h), got)
	}
	return upper, lower
}

// shortened returns the beginning of how a list is written.
func shortened(list []tally.Rat) string {
	text := fmt.Sprint(list)
	return text[:min(len(text), 300)]
}

// moved returns a list with one element that is greater by this.
func moved(list []tally.Rat, i int, by *big.Rat) []tally.Rat {
	result := slices.Clone(list)
	result[i] = fromBig(sumOf(toBig(result[i]), by))
	return result
}

// little are small fractions, the last ones with more than 40 digits.
func little() []*big.Rat {
	return []*big.Rat{
		fraction(1, 2),
		fraction(1, 1000000007),
		quotient(big.NewInt(1), power(39, 7)),
		quotient(big.NewInt(1), power(40, 0)),
		quotient(big.NewInt(1), power(500, 1)),
	}
}

// P7.2: lists that are or nearly are the steps: too small or too large at just one state, by a little.
func TestNearSteps(t *testing.T) {
	uppers, lowers := 0, 0
	for _, s := range samples() {
		steps, _ := chance.Steps(s.p)
		upper, lower := expectProofs(t, s.name, s.p, steps)
		if !upper || !lower {
			t.Errorf("%s: the oracle does not take the steps", s.name)
		}
		for i := range steps {
			for _, by := range little() {
				up, _ := expectProofs(t, s.name, s.p, moved(steps, i, by))
				_, down := expectProofs(t, s.name, s.p, moved(steps, i, new(big.Rat).Neg(by)))
				if up {
					uppers++
				}
				if down {
					lowers++
				}
			}
		}
	}
	if uppers < 20 || lowers < 20 {
		t.Errorf("only %d upper proofs, %d lower ones", uppers, lowers)
	}
}

// someProof returns steps that were multiplied and moved, of which some are proofs.
func someProof(r *rand.Rand, steps []tally.Rat) []tally.Rat {
	h := toBigs(steps)
	factor := fraction(r.Int64N(5), 1+r.Int64N(3))
	for i := range h {
		h[i] = productOf(h[i], factor)
		if r.IntN(8) == 0 {
			h[i] = sumOf(h[i], fraction(r.Int64N(5)-2, 1+r.Int64N(4)))
		}
	}
	return fromBigs(h)
}

// P7.2: lists of all kinds.
func TestSomeProofs(t *testing.T) {
	r := newRandom()
	found := map[[2]bool]int{}
	for _, s := range slices.Concat(samples(), smallSamples()) {
		steps, _ := chance.Steps(s.p)
		for range 40 {
			upper, lower := expectProofs(t, s.name, s.p, someProof(r, steps))
			found[[2]bool{upper, lower}]++
		}
	}
	for _, upper := range []bool{false, true} {
		for _, lower := range []bool{false, true} {
			if found[[2]bool{upper, lower}] < 50 {
				t.Errorf("only %d lists with %v, %v", found[[2]bool{upper, lower}], upper, lower)
			}
		}
	}
}

// P7.2: known lists: what may be negative, what may not, and what is free at ends.
func TestKnownProofs(t *testing.T) {
	for _, x := range []struct {
		h            string
		upper, lower bool
	}{
		{"2 2 0 0", true, true},
		{"3 3 0 0", true, false},
		{"1 2 0 0", false, false},
		{"2 1 0 0", false, false},
		{"1 3/2 0 0", false, true},
		{"1 1500001/1000000 0 0", false, false},
		{"0 0 0 0", false, true},
		{"0 0 0 -1", false, true},
		{"-5 -7 0 0", false, true},
		{"-5 -7 -9 0", false, false},
		{"-5 -4 -2 -2", false, true},
		{"2 2 -1 0", false, false},
		{"2 2 0 -1/1000000", false, false},
		{"4 4 -1 0", false, false},
		{"4 4 0 -1/1000000", false, false},
		{"4 4 1 1", true, false},
		{"4 4 2 0", true, false},
		{"4 4 2 2", true, false},
		{"4 4 2000001/1000000 2", false, false},
		{"4 4 2 2000001/1000000", false, false},
		{"4 4 4 2", false, false},
		{"1 1 0 1/1000000", false, false},
		{"1 1 1 0", false, false},
		{"2 2 1 1", false, false},
		{"1999999/1000000 2 0 0", false, false},
		{"2000001/1000000 2 0 0", false, false},
		{"5/2 2 0 0", false, false},
	} {
		if upper, lower := expectProofs(t, "the example", walk(), rats(x.h)); upper != x.upper || lower != x.lower {
			t.Errorf("the oracle has %v, %v for %s", upper, lower, x.h)
		}
	}
	for n := 1; n <= 16; n++ {
		ends := allEnds(n)
		for at := range n {
			more, less := unit(n, at), unit(n, at)
			less[at] = fraction(-1, 1)
			if upper, lower := expectProofs(t, "ends", ends, fromBigs(more)); !upper || lower {
				t.Errorf("the oracle has %v, %v for a positive number at an end", upper, lower)
			}
			if upper, lower := expectProofs(t, "ends", ends, fromBigs(less)); upper || !lower {
				t.Errorf("the oracle has %v, %v for a negative number at an end", upper, lower)
			}
		}
	}
}

// P7.2: lists that do not have an element for each state.
func TestProofLengths(t *testing.T) {
	for _, s := range samples() {
		n := len(s.p)
		right := fromBigs(toBigs(make([]tally.Rat, n)))
		steps, _ := chance.Steps(s.p)
		if !chance.IsUpper(s.p, steps) || !chance.IsLower(s.p, right) || !chance.IsValue(s.p, right, right) {
			t.Errorf("%s: no proofs of the right length", s.name)
		}
		for _, length := range []int{0, n - 1, n + 1, 2 * n, 5000 * n} {
			list := make([]tally.Rat, length)
			copy(list, steps)
			zeros := make([]tally.Rat, length)
			if chance.IsUpper(s.p, list) || chance.IsLower(s.p, zeros) || chance.IsValue(s.p, zeros, zeros) ||
				chance.IsValue(s.p, right, zeros) || chance.IsValue(s.p, zeros, right) {
				t.Errorf("%s: a proof of %d elements", s.name, length)
			}
		}
	}
}

// someHuge returns two fractions with one denominator; all have about so many bits.
func someHuge(r *rand.Rand, bits uint) (x, y, unit *big.Rat) {
	d := new(big.Int).Lsh(big.NewInt(1+2*r.Int64N(1<<30)), bits-32)
	d.Sub(d, big.NewInt(1))
	unit = quotient(big.NewInt(1), d)
	number := func() *big.Rat {
		n := new(big.Int).Quo(d, big.NewInt(2+r.Int64N(1<<20)))
		return productOf(new(big.Rat).SetInt(n.Add(n, big.NewInt(r.Int64()))), unit)
	}
	return number(), number(), unit
}

// balanced returns the list whose elements at the ends of the example are x and y, and at the other states the toll and the average after a step.
func balanced(toll int64, x, y *big.Rat) []*big.Rat {
	third := func(a, b int64) *big.Rat {
		h := sumOf(productOf(fraction(a, 3), x), productOf(fraction(b, 3), y))
		return sumOf(h, fraction(2*toll, 1))
	}
	return []*big.Rat{third(2, 1), third(1, 2), x, y}
}

// P7.2: numbers of thousands of digits, whose sums are too large for tally, exactly where the definitions hold and as near to that as possible.
func TestHugeProofs(t *testing.T) {
	r := newRandom()
	for _, bits := range []uint{100, 2700, 3000, 5000, 20000, 39990} {
		x, y, unit := someHuge(r, bits)
		for _, signs := range [][2]int64{{1, 1}, {-1, -1}, {1, -1}} {
			a, b := productOf(x, fraction(signs[0], 1)), productOf(y, fraction(signs[1], 1))
			h, v := balanced(1, a, b), balanced(0, a, b)
			f := []*big.Rat{sumOf(v[0], fraction(-1, 7)), sumOf(v[1], fraction(-1, 7)), a, b}
			upper, lower := signs[0] > 0 && signs[1] > 0, signs[0] < 0 && signs[1] < 0
			for _, more := range []int64{0, 1, -1} {
				by := productOf(fraction(more, 3), unit)
				for at := range 2 {
					list := moved(fromBigs(h), at, by)
					if chance.IsUpper(walk(), list) != (upper && more == 0) || chance.IsLower(walk(), list) != (lower && more == 0) {
						t.Errorf("%d bits, signs %v, state %d, %d more: %v, %v", bits, signs, at, more, chance.IsUpper(walk(), list), chance.IsLower(walk(), list))
					}
					expectValue(t, fmt.Sprint("numbers of ", bits, " bits, ", more, " more"), walk(), fromBigs(f), moved(fromBigs(v), at, by), more == 0)
				}
			}
		}
	}
}

// P7.2: numbers so large that no sum of them fits, at the very border: h(0) is 1 + (h(1) + h(2)) / 2, or differs from that by as little as possible.
func TestExactBorder(t *testing.T) {
	p := walk()
	c := toChain(p)
	for _, bits := range []int{100, 10000, 20000, 39990} {
		whole := new(big.Int).Lsh(big.NewInt(1), uint(bits))
		for _, x := range []struct {
			name string
			mean *big.Rat // half of the sum of h(1) and h(2), less 1
		}{
			{"a great number", quotient(whole, big.NewInt(1))},
			{"a small number", quotient(big.NewInt(1), whole)},
			{"a great denominator", quotient(new(big.Int).Sub(whole, big.NewInt(3)), new(big.Int).Sub(whole, big.NewInt(1)))},
		} {
			for _, more := range []int64{-1, 0, 1} {
				h0 := sumOf(fraction(1, 1), x.mean)
				h0.Add(h0, productOf(fraction(more, 1), quotient(big.NewInt(1), new(big.Int).Mul(whole, big.NewInt(2)))))
				if h0.Num().BitLen() > api.MaxBits || h0.Denom().BitLen() > api.MaxBits {
					continue
				}
				h := []*big.Rat{h0, x.mean, x.mean, new(big.Rat)}
				what := fmt.Sprintf("%s of %d bits, %d", x.name, bits, more)
				expectProofs(t, what, p, fromBigs(h))
				for i := range h {
					h[i] = new(big.Rat).Neg(h[i])
				}
				expectProofs(t, what+", negative", p, fromBigs(h))
				f := []*big.Rat{new(big.Rat), h[1], h[2], h[3]}
				expectValue(t, what, p, fromBigs(f), fromBigs(h), c.isValue(f, h))
			}
		}
	}
}

func expectValue(t *testing.T, what string, p [][]tally.Rat, f, v []tally.Rat, want bool) {
	t.Helper()
	if got := chance.IsValue(p, f, v); got != want {
		t.Errorf("IsValue of %s, %v, %v: %v", what, shortened(f), shortened(v), got)
	}
}
