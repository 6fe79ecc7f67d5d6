package chance_test

import (
	"fmt"
	"math/big"
	"slices"
	"testing"

	"dauber/api"
	"dauber/chance"
	"dauber/tally"
)

// expectChain checks all that P7.1 says of a valid chain.
func expectChain(t *testing.T, name string, p [][]tally.Rat) {
	t.Helper()
	c := toChain(p)
	if e := chance.Check(p); e != api.OK {
		t.Errorf("Check of %s: %d", name, e)
	}
	ends, e := chance.Ends(p)
	if e != api.OK || !slices.Equal(ends, c.ends()) {
		t.Errorf("Ends of %s: %v, %d; want %v", name, ends, e, c.ends())
	}
	absorbed, e := chance.Absorb(p)
	steps, f := chance.Steps(p)
	if e != api.OK || f != api.OK || len(absorbed) != len(p) || len(steps) != len(p) {
		t.Fatalf("%s: Absorb %v, %d; Steps %v, %d", name, absorbed, e, steps, f)
	}
	for i := range p {
		chances, average := c.reduced(i)
		expectRats(t, fmt.Sprintf("Absorb of state %d of %s", i, name), absorbed[i], e, chances)
		expectRat(t, fmt.Sprintf("Steps of state %d of %s", i, name), steps[i], f, average)
	}
}

// P7.1: chains of all sizes, against the oracle.
func TestChains(t *testing.T) {
	for _, s := range slices.Concat(samples(), smallSamples()) {
		expectChain(t, s.name, s.p)
	}
}

// P7.1: the example of the chapter, a fair game, in which the chance to win is the part that one has, and a circle.
func TestKnownChains(t *testing.T) {
	absorbed, e := chance.Absorb(walk())
	if fmt.Sprint(absorbed) != "[[2/3 1/3] [1/3 2/3] [1 0] [0 1]]" || e != api.OK {
		t.Errorf("Absorb of the example: %v, %d", absorbed, e)
	}
	steps, e := chance.Steps(walk())
	if fmt.Sprint(steps) != "[2 2 0 0]" || e != api.OK {
		t.Errorf("Steps of the example: %v, %d", steps, e)
	}
	for n := 2; n <= 16; n++ {
		p := ruin(n, fraction(1, 2))
		absorbed, e = chance.Absorb(p)
		steps, f := chance.Steps(p)
		for i := range int64(n) {
			last := int64(n - 1)
			expectRats(t, "Absorb of a fair game", absorbed[i], e, []*big.Rat{fraction(last-i, last), fraction(i, last)})
			expectRat(t, "Steps of a fair game", steps[i], f, fraction(i*(last-i), 1))
		}
	}
	steps, e = chance.Steps(rows("0 1 0 0", "0 0 1 0", "9/10 0 0 1/10", "0 0 0 1"))
	expectRats(t, "Steps of a circle", steps, e, []*big.Rat{fraction(30, 1), fraction(29, 1), fraction(28, 1), new(big.Rat)})
	steps, e = chance.Steps(rows("1/1000000 999999/1000000", "0 1"))
	expectRats(t, "Steps with a small chance to stay", steps, e, []*big.Rat{fraction(1000000, 999999), new(big.Rat)})
}

// P7.1: chains all of whose states are ends.
func TestOnlyEnds(t *testing.T) {
	for n := 1; n <= 16; n++ {
		absorbed, e := chance.Absorb(allEnds(n))
		steps, f := chance.Steps(allEnds(n))
		if len(absorbed) != n || len(steps) != n {
			t.Fatalf("%d ends: %v, %v", n, absorbed, steps)
		}
		for i := range n {
			expectRats(t, "Absorb of ends", absorbed[i], e, unit(n, i))
			expectRat(t, "Steps of ends", steps[i], f, new(big.Rat))
		}
	}
}

// everyError makes the calls that take a chain, and expects the same error of each of them, or false.
func everyError(t *testing.T, what string, p [][]tally.Rat, want api.Errno) {
	t.Helper()
	expectError(t, "Check of "+what, chance.Check(p), want)
	ends, e := chance.Ends(p)
	expectError(t, "Ends of "+what, e, want, ends)
	absorbed, e := chance.Absorb(p)
	expectError(t, "Absorb of "+what, e, want, absorbed)
	steps, e := chance.Steps(p)
	expectError(t, "Steps of "+what, e, want, steps)
	for _, f := range [][]tally.Rat{make([]tally.Rat, len(p)), nil, rats("1 2 3"), {fromBig(quotient(power(40, 0), big.NewInt(1)))}} {
		value, e := chance.Value(p, f)
		expectError(t, "Value of "+what, e, want, value)
		if chance.IsUpper(p, f) || chance.IsLower(p, f) || chance.IsValue(p, f, f) {
			t.Errorf("%s has a proof", what)
		}
	}
}

// huge is the greatest number of tally.
func huge() tally.Rat {
	n := new(big.Int).Lsh(big.NewInt(1), api.MaxBits)
	return fromBig(quotient(n.Sub(n, big.NewInt(1)), big.NewInt(1)))
}

// P7.1: what is no chain, and which error comes first.
func TestChainErrors(t *testing.T) {
	r := newRandom()
	withRow := func(p [][]tally.Rat, i int, row []tally.Rat) [][]tally.Rat {
		p[i] = row
		return p
	}
	for _, x := range []struct {
		what string
		p    [][]tally.Rat
		want api.Errno
	}{
		{"no states", nil, api.ErrArg},
		{"an empty list of states", [][]tally.Rat{}, api.ErrArg},
		{"17 states", allEnds(17), api.ErrLong},
		{"17 states of some chain", someChain(r, 17, 9).rows(), api.ErrLong},
		{"17 empty rows", make([][]tally.Rat, 17), api.ErrLong},
		{"many empty rows", make([][]tally.Rat, 1<<20), api.ErrLong},
		{"an empty row", [][]tally.Rat{nil}, api.ErrShape},
		{"16 empty rows", make([][]tally.Rat, 16), api.ErrShape},
		{"a first row that is too short", withRow(walk(), 0, rats("0 1/2 1/2")), api.ErrShape},
		{"a last row that is too short", withRow(walk(), 3, rats("0 0 1")), api.ErrShape},
		{"a first row that is too long", withRow(walk(), 0, rats("0 1/2 1/2 0 0")), api.ErrShape},
		{"a last row that is too long", withRow(walk(), 3, rats("0 0 0 1 0")), api.ErrShape},
		{"one state with two chances", rows("1 0"), api.ErrShape},
		{"a row that is too long, after one that is none", rows("2 0", "0 1 0"), api.ErrShape},
		{"a row that is too short, before one that is none", rows("1", "0 1/2"), api.ErrShape},
		{"a negative chance", rows("1/2 1 -1/2", "0 1 0", "0 0 1"), api.ErrChain},
		{"a negative chance in the last row", rows("1 0", "2 -1"), api.ErrChain},
		{"a sum below 1", rows("1/2 1/3", "0 1"), api.ErrChain},
		{"a sum above 1", rows("1/2 2/3", "0 1"), api.ErrChain},
		{"a sum above 1 in the last row", rows("1 0", "1/1000000 1"), api.ErrChain},
		{"a sum of 0", rows("0 0", "0 1"), api.ErrChain},
		{"a sum of 2", rows("1 0", "1 1"), api.ErrChain},
		{"one state with the chance 0", rows("0"), api.ErrChain},
		{"one state with the chance 2", rows("2"), api.ErrChain},
		{"one state with the chance -1", rows("-1"), api.ErrChain},
		{"one state with zero values", [][]tally.Rat{make([]tally.Rat, 1)}, api.ErrChain},
		{"16 states with zero values", slices.Repeat([][]tally.Rat{make([]tally.Rat, 16)}, 16), api.ErrChain},
		{"a circle", rows("0 1", "1 0"), api.ErrChain},
		{"a circle beside an end", rows("0 1 0", "1 0 0", "0 0 1"), api.ErrChain},
		{"a circle to which a state leads", rows("0 1 0 0", "1/2 1/2 0 0", "1/3 0 1/3 1/3", "0 0 0 1"), api.ErrChain},
		{"an end that nearly is one", rows("999999/1000000 1/1000000", "1 0"), api.ErrChain},
		{"huge chances", [][]tally.Rat{{huge(), huge()}, {huge(), huge()}}, api.ErrChain},
		{"huge chances with the sum 0", [][]tally.Rat{{huge(), huge().Neg()}, rats("0 1")}, api.ErrChain},
	} {
		everyError(t, x.what, x.p, x.want)
	}
}

// split is the chain that goes from one state to two ends, to the first of them with this chance.
func split(chance *big.Rat) [][]tally.Rat {
	return chain{{new(big.Rat), chance, new(big.Rat).Sub(fraction(1, 1), chance)}, unit(3, 1), unit(3, 2)}.rows()
}

// P7.1: chances with 40 digits are taken, with 41 they are not.
func TestChanceDigits(t *testing.T) {
	for _, x := range []struct {
		what   string
		chance *big.Rat
		want   api.Errno
	}{
		{"1 in the greatest number of 40 digits", quotient(big.NewInt(1), power(40, -1)), api.OK},
		{"1 in the least number of 40 digits", quotient(big.NewInt(1), power(39, 0)), api.OK},
		{"half of the greatest number of 40 digits", quotient(power(39, 1), power(40, -1)), api.OK},
		{"numerator and denominator with 40 digits", quotient(power(40, -2), power(40, -1)), api.OK},
		{"1 in the least number of 41 digits", quotient(big.NewInt(1), power(40, 0)), api.ErrChain},
		{"1 in one more", quotient(big.NewInt(1), power(40, 1)), api.ErrChain},
		{"numerator and denominator with 41 digits", quotient(power(40, 0), power(40, 1)), api.ErrChain},
		{"numerator with 40, denominator with 41 digits", quotient(power(40, -1), power(40, 0)), api.ErrChain},
		{"1 in a number of 1000 digits", quotient(big.NewInt(1), power(999, 0)), api.ErrChain},
	} {
		if x.want != api.OK {
			everyError(t, x.what, split(x.chance), x.want)
			continue
		}
		expectChain(t, x.what, split(x.chance))
	}
	p := walk()
	tiny := quotient(big.NewInt(1), power(40, 0))
	p[3] = fromBigs([]*big.Rat{tiny, new(big.Rat), new(big.Rat), new(big.Rat).Sub(fraction(1, 1), tiny)})
	everyError(t, "41 digits in the last row", p, api.ErrChain)
}

// P7.1: chains of 16 states with the longest numbers: no calculation is too large.
func TestLongChain(t *testing.T) {
	t.Parallel()
	c := longChain(16)
	steps, e := chance.Steps(c.rows())
	if e != api.OK || len(steps) != 16 {
		t.Fatalf("Steps of a long chain: %d numbers, %d", len(steps), e)
	}
	if digits := len(steps[0].Den().String()); digits < 4500 {
		t.Errorf("only %d digits", digits)
	}
	// The equations have one solution only.
	list := toBigs(steps)
	for i := range 15 {
		expectRat(t, "Steps of a long chain", steps[i], e, sumOf(fraction(1, 1), c.average(i, list)))
	}
	expectRat(t, "Steps of a long chain", steps[15], e, new(big.Rat))

	c[0], c[7] = unit(16, 0), unit(16, 7)
	absorbed, e := chance.Absorb(c.rows())
	if e != api.OK || len(absorbed) != 16 {
		t.Fatalf("Absorb of a long chain: %d rows, %d", len(absorbed), e)
	}
	for k, end := range c.ends() {
		column := make([]*big.Rat, 16)
		for i := range c {
			column[i] = toBig(absorbed[i][k])
		}
		for i := range c {
			want := c.average(i, column)
			if c.isEnd(i) {
				want = unit(16, end)[i]
			}
			expectRat(t, "Absorb of a long chain", absorbed[i][k], e, want)
		}
	}
}
