package chance_test

import (
	"fmt"
	"math/big"
	"slices"
	"testing"

	"dauber/api"
	"dauber/chance"
	"dauber/tally"
)

// P7.6: the chances of Absorb add up to 1, and each column satisfies the equations of the chain.
func TestAbsorbEquations(t *testing.T) {
	for _, s := range slices.Concat(samples(), smallSamples()) {
		c := toChain(s.p)
		absorbed, e := chance.Absorb(s.p)
		if e != api.OK || len(absorbed) != len(c) {
			t.Fatalf("Absorb of %s: %v, %d", s.name, absorbed, e)
		}
		for i, row := range absorbed {
			sum := new(big.Rat)
			for _, x := range row {
				sum = sumOf(sum, toBig(x))
			}
			if sum.Cmp(fraction(1, 1)) != 0 || len(row) != len(c.ends()) {
				t.Errorf("Absorb of %s, state %d: %v", s.name, i, row)
			}
		}
		for k, end := range c.ends() {
			column := make([]*big.Rat, len(c))
			for i := range c {
				column[i] = toBig(absorbed[i][k])
			}
			for i := range c {
				want := c.average(i, column)
				if c.isEnd(i) {
					want = unit(len(c), end)[i]
				}
				if column[i].Cmp(want) != 0 {
					t.Errorf("Absorb of %s, state %d, end %d: %v; want %v", s.name, i, end, column[i], want)
				}
			}
		}
	}
}

// P7.7: an upper proof is at least Steps at each state, a lower proof at most; Steps is both.
func TestBounds(t *testing.T) {
	r := newRandom()
	proofs := 0
	for _, s := range slices.Concat(samples(), smallSamples()) {
		steps, _ := chance.Steps(s.p)
		if !chance.IsUpper(s.p, steps) || !chance.IsLower(s.p, steps) {
			t.Errorf("%s: the steps are no proof: %v", s.name, steps)
		}
		for range 40 {
			h := someProof(r, steps)
			upper, lower := chance.IsUpper(s.p, h), chance.IsLower(s.p, h)
			for i := range h {
				if upper && h[i].Cmp(steps[i]) < 0 || lower && h[i].Cmp(steps[i]) > 0 {
					t.Errorf("%s: the steps are %v; a proof is %v", s.name, steps, h)
				}
			}
			if upper || lower {
				proofs++
			}
		}
	}
	if proofs < 500 {
		t.Errorf("only %d proofs", proofs)
	}
}

// P7.8: Value is a value proof, another list is none, and no set of states at which one stops attains more.
func TestBestStopping(t *testing.T) {
	r := newRandom()
	for _, s := range smallSamples() {
		c := toChain(s.p)
		for range 5 {
			f := someRewards(r, len(c))
			v, e := chance.Value(s.p, fromBigs(f))
			if e != api.OK || !chance.IsValue(s.p, fromBigs(f), v) {
				t.Fatalf("%s: Value of %v: %v, %d", s.name, f, v, e)
			}
			attained := false
			c.stoppings(func(stops []bool) {
				list := fromBigs(c.attained(stops, f))
				is := true
				for i := range list {
					if list[i].Cmp(v[i]) > 0 {
						t.Errorf("%s: Value of %v: %v, but stopping at %v has %v", s.name, f, v, stops, list)
					}
					is = is && list[i].Cmp(v[i]) == 0
				}
				attained = attained || is
				if chance.IsValue(s.p, fromBigs(f), list) != is {
					t.Errorf("%s: IsValue of %v, %v is not %v", s.name, f, list, is)
				}
			})
			if !attained {
				t.Errorf("%s: Value of %v: %v is not attained", s.name, f, v)
			}
		}
	}
}

func intOf(x tally.Int, e api.Errno) *big.Rat {
	r, ok := new(big.Rat).SetString(x.String())
	if e != api.OK || !ok {
		panic("no number")
	}
	return r
}

// P7.9: Conway's formulas.
func TestConway(t *testing.T) {
	r := newRandom()
	for range 150 {
		m := []int{2, 2, 3, 10, 90}[r.IntN(5)]
		pair := someRace(r, m, 2, 10)
		a, b := pair[0], pair[1]
		wait, e := chance.Wait(m, a)
		lead, f := chance.Lead(m, a, a)
		if e != api.OK || f != api.OK || wait.Cmp(lead) != 0 {
			t.Errorf("Wait of %v, m = %d: %v, %d; the lead is %v, %d", a, m, wait, e, lead, f)
		}
		ofA := new(big.Rat).Sub(intOf(chance.Lead(m, a, a)), intOf(chance.Lead(m, a, b)))
		ofB := new(big.Rat).Sub(intOf(chance.Lead(m, b, b)), intOf(chance.Lead(m, b, a)))
		first, e := chance.Before(m, a, b)
		expectRat(t, fmt.Sprint("Before of ", pair, ", m = ", m), first, e, new(big.Rat).Quo(ofB, sumOf(ofA, ofB)))
		second, e := chance.Before(m, b, a)
		expectRat(t, fmt.Sprint("Before of ", pair, ", m = ", m, ", the other way round"), second, e, new(big.Rat).Quo(ofA, sumOf(ofA, ofB)))
		both, e := chance.Race(m, pair)
		expectRats(t, fmt.Sprint("Race of ", pair, ", m = ", m), both, e, toBigs([]tally.Rat{first, second}))
		expectFair(t, m, pair)
	}
}

// P7.10: Calls is the sum of what Full lacks; the formula for one card; the sum of First.
func TestCallsAndFull(t *testing.T) {
	r := newRandom()
	for range 150 {
		n := 1 + r.IntN(90)
		cards := someCards(r, from(1, n), 1+r.IntN(6))
		average := new(big.Rat)
		for calls := range n {
			full, e := chance.Full(n, cards, calls)
			if e != api.OK || full.Sign() < 0 {
				t.Errorf("Full of %v after %d of %d: %v, %d", cards, calls, n, full, e)
			}
			average = sumOf(average, new(big.Rat).Sub(fraction(1, 1), toBig(full)))
		}
		got, e := chance.Calls(n, cards)
		expectRat(t, fmt.Sprint("Calls of ", cards, " of ", n), got, e, average)
		first, e := chance.First(n, cards)
		sum := new(big.Rat)
		for _, x := range first {
			sum = sumOf(sum, toBig(x))
		}
		if e != api.OK || len(first) != len(cards) || sum.Cmp(fraction(1, 1)) < 0 {
			t.Errorf("First of %v: %v, %d", cards, first, e)
		}
	}
	for n := int64(1); n <= 90; n++ {
		for k := int64(1); k <= n; k++ {
			card := from(int(n-k+1), int(k))
			got, e := chance.Calls(int(n), [][]int{card})
			expectRat(t, fmt.Sprint("Calls of ", card, " of ", n), got, e, fraction(k*(n+1), k+1))
		}
	}
}

// P7.10: the chances of First add up to just 1 if no two cards have a number in common.
func TestCardsApart(t *testing.T) {
	r := newRandom()
	for range 200 {
		n := 6 + r.IntN(85)
		numbers := r.Perm(n)
		var cards [][]int
		for len(cards) < 6 && len(numbers) > 0 {
			size := 1 + r.IntN(min(len(numbers), 1+n/4))
			var card []int
			for _, x := range numbers[:size] {
				card = append(card, x+1)
			}
			cards, numbers = append(cards, card), numbers[size:]
		}
		first, e := chance.First(n, cards)
		sum := new(big.Rat)
		for _, x := range first {
			sum = sumOf(sum, toBig(x))
			if x.Sign() <= 0 {
				t.Errorf("First of %v: %v", cards, first)
			}
		}
		if e != api.OK || sum.Cmp(fraction(1, 1)) != 0 {
			t.Errorf("First of %v: %v, %d", cards, first, e)
		}
	}
	sixth := fraction(1, 6)
	cards := [][]int{from(1, 15), from(16, 15), from(31, 15), from(46, 15), from(61, 15), from(76, 15)}
	first, e := chance.First(90, cards)
	expectRats(t, "First of six cards with all numbers", first, e, []*big.Rat{sixth, sixth, sixth, sixth, sixth, sixth})
}
