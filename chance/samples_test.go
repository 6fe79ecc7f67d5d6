package chance_test

import (
	"fmt"
	"math/big"
	"math/rand/v2"
	"slices"
	"strings"

	"dauber/api"
	"dauber/tally"
)

// rat reads a fraction, which must be one.
func rat(s string) tally.Rat {
	r, e := tally.ParseRat(s)
	if e != api.OK {
		panic("no fraction: " + s)
	}
	return r
}

// rats reads fractions with spaces between them.
func rats(s string) []tally.Rat {
	var list []tally.Rat
	for _, word := range strings.Fields(s) {
		list = append(list, rat(word))
	}
	return list
}

func rows(lines ...string) [][]tally.Rat {
	var p [][]tally.Rat
	for _, line := range lines {
		p = append(p, rats(line))
	}
	return p
}

// sample is a chain.
type sample struct {
	name string
	p    [][]tally.Rat
}

// walk is the first example of the chapter.
func walk() [][]tally.Rat {
	return rows("0 1/2 1/2 0", "1/2 0 0 1/2", "0 0 1 0", "0 0 0 1")
}

// allEnds returns the chain of n states that are ends.
func allEnds(n int) [][]tally.Rat {
	var c chain
	for i := range n {
		c = append(c, unit(n, i))
	}
	return c.rows()
}

// ruin returns the chain of a player who wins 1 with the chance up, and else loses 1, until there is nothing left or there are n - 1.
func ruin(n int, up *big.Rat) [][]tally.Rat {
	c := toChain(allEnds(n))
	for i := 1; i+1 < n; i++ {
		c[i][i] = new(big.Rat)
		c[i][i+1] = up
		c[i][i-1] = new(big.Rat).Sub(fraction(1, 1), up)
	}
	return c.rows()
}

// someChain returns a chain with at least one end, from which some chances are 0; each row has a denominator up to most.
func someChain(r *rand.Rand, n int, most int64) chain {
	for {
		c := make(chain, n)
		for i := range c {
			c[i] = unit(n, i)
			if r.IntN(4) > 0 {
				c[i] = someRow(r, n, 1+r.Int64N(most))
			}
		}
		at := r.IntN(n)
		c[at] = unit(n, at)
		if c.reachesEnds() {
			return c
		}
	}
}

// someRow returns n chances with the denominator d.
func someRow(r *rand.Rand, n int, d int64) []*big.Rat {
	row := make([]*big.Rat, n)
	left := d
	for i := range row {
		part := int64(0)
		if r.IntN(3) > 0 {
			part = r.Int64N(left + 1)
		}
		if i == n-1 {
			part = left
		}
		left -= part
		row[i] = fraction(part, d)
	}
	r.Shuffle(n, func(i, j int) { row[i], row[j] = row[j], row[i] })
	return row
}

// reachesEnds reports whether from every state there is a way to an end.
func (c chain) reachesEnds() bool {
	reached := c.ends()
	for k := 0; k < len(reached); k++ {
		for i, row := range c {
			if row[reached[k]].Sign() > 0 && !slices.Contains(reached, i) {
				reached = append(reached, i)
			}
		}
	}
	return len(reached) == len(c)
}

// samples returns chains with up to 16 states.
func samples() []sample {
	r := newRandom()
	all := []sample{
		{"the example", walk()},
		{"one state", allEnds(1)},
		{"two ends", allEnds(2)},
		{"16 ends", allEnds(16)},
		{"two states", rows("1/3 2/3", "0 1")},
		{"an end before a state", rows("1 0", "1/1000000 999999/1000000")},
		{"a fair game", ruin(7, fraction(1, 2))},
		{"a game that is not fair", ruin(6, fraction(2, 5))},
		{"a long game", ruin(16, fraction(18, 37))},
		{"a circle", rows("0 1 0 0", "0 0 1 0", "9/10 0 0 1/10", "0 0 0 1")},
		{"a line without chance", rows("0 1 0", "0 0 1", "0 0 1")},
	}
	for n := 2; n <= 16; n++ {
		all = append(all, sample{fmt.Sprint("some chain of ", n, " states"), someChain(r, n, 30).rows()})
	}
	return all
}

// smallSamples returns chains of up to 6 states.
func smallSamples() []sample {
	r := newRandom()
	all := slices.DeleteFunc(samples(), func(s sample) bool { return len(s.p) > 6 })
	for i := range 40 {
		all = append(all, sample{fmt.Sprint("some small chain, ", i), someChain(r, 1+r.IntN(6), 9).rows()})
	}
	return all
}

// power returns 10^n + more.
func power(n int, more int64) *big.Int {
	p := new(big.Int).Exp(big.NewInt(10), big.NewInt(int64(n)), nil)
	return p.Add(p, big.NewInt(more))
}

// quotient returns a divided by b.
func quotient(a, b *big.Int) *big.Rat {
	return new(big.Rat).SetFrac(a, b)
}

// coprime returns n numbers without common divisors, just below the limit.
func coprime(n int, limit *big.Int) []*big.Int {
	var list []*big.Int
	for x := new(big.Int).Sub(limit, big.NewInt(1)); len(list) < n; x = new(big.Int).Sub(x, big.NewInt(1)) {
		fits := func(y *big.Int) bool { return new(big.Int).GCD(nil, nil, x, y).Cmp(big.NewInt(1)) == 0 }
		if !slices.ContainsFunc(list, func(y *big.Int) bool { return !fits(y) }) {
			list = append(list, x)
		}
	}
	return list
}

// longRow returns n chances whose denominators have 40 digits, and whose least common denominator has as many digits as possible: 20 n. Each of n numbers without common divisors is in the denominators of two neighbours.
func longRow(r *rand.Rand, n int) []*big.Rat {
	e := coprime(n, power(20, -r.Int64N(1000000000)))
	rest := fraction(1, 1)
	row := make([]*big.Rat, n)
	var before *big.Int // the numerator of the chance before
	for i := range n - 1 {
		own, next := e[i], e[i+1]
		x := big.NewInt(1 + r.Int64())
		if i > 0 {
			// The chance before and this one add up to a fraction without own in the denominator.
			x.ModInverse(e[i-1], own)
			x.Mul(x, next).Mul(x, before).Neg(x).Mod(x, own)
		}
		steps := new(big.Int).Quo(next, big.NewInt(int64(2*n)))
		x.Add(x, steps.Mul(steps, own))
		row[i] = quotient(x, new(big.Int).Mul(own, next))
		rest.Sub(rest, row[i])
		before = x
	}
	row[n-1] = rest
	return row
}

// longChain returns a chain with one end whose numbers are as long as possible.
func longChain(n int) chain {
	r := newRandom()
	var c chain
	for range n - 1 {
		c = append(c, longRow(r, n))
	}
	return append(c, unit(n, n-1))
}
