package chance_test

import (
	"math/big"
	"math/bits"
	"math/rand/v2"
	"reflect"
	"slices"
	"testing"

	"dauber/api"
	"dauber/tally"
)

// The tests compare the package with an oracle that calculates by the definitions: it takes states out of chains until only the start and the ends are left, tries all sets of states at which to stop, keeps the last numbers that were drawn, and goes through all sets of numbers that were called.

func newRandom() *rand.Rand {
	return rand.New(rand.NewPCG(7, 12))
}

func fraction(a, b int64) *big.Rat {
	return big.NewRat(a, b)
}

func sumOf(a, b *big.Rat) *big.Rat {
	return new(big.Rat).Add(a, b)
}

func productOf(a, b *big.Rat) *big.Rat {
	return new(big.Rat).Mul(a, b)
}

func toBig(r tally.Rat) *big.Rat {
	result, ok := new(big.Rat).SetString(r.String())
	if !ok {
		panic("no fraction: " + r.String())
	}
	return result
}

func fromBig(r *big.Rat) tally.Rat {
	result, e := tally.ParseRat(r.RatString())
	if e != api.OK {
		panic("no small fraction")
	}
	return result
}

func toBigs(list []tally.Rat) []*big.Rat {
	result := make([]*big.Rat, len(list))
	for i, r := range list {
		result[i] = toBig(r)
	}
	return result
}

func fromBigs(list []*big.Rat) []tally.Rat {
	result := make([]tally.Rat, len(list))
	for i, r := range list {
		result[i] = fromBig(r)
	}
	return result
}

// chain is a chain as the oracle has it.
type chain [][]*big.Rat

func toChain(p [][]tally.Rat) chain {
	c := make(chain, len(p))
	for i, row := range p {
		c[i] = toBigs(row)
	}
	return c
}

func (c chain) rows() [][]tally.Rat {
	p := make([][]tally.Rat, len(c))
	for i, row := range c {
		p[i] = fromBigs(row)
	}
	return p
}

func (c chain) isEnd(i int) bool {
	return c[i][i].Cmp(fraction(1, 1)) == 0
}

func (c chain) ends() []int {
	var ends []int
	for i := range c {
		if c.isEnd(i) {
			ends = append(ends, i)
		}
	}
	return ends
}

// average is the sum over j of the chance from i to j times the value of j.
func (c chain) average(i int, values []*big.Rat) *big.Rat {
	total := new(big.Rat)
	for j, chance := range c[i] {
		total.Add(total, productOf(chance, values[j]))
	}
	return total
}

// stopped returns the chain that stops at these states.
func (c chain) stopped(stops []bool) chain {
	result := slices.Clone(c)
	for i := range c {
		if stops[i] {
			result[i] = unit(len(c), i)
		}
	}
	return result
}

func unit(n, at int) []*big.Rat {
	row := make([]*big.Rat, n)
	for i := range row {
		row[i] = new(big.Rat)
	}
	row[at] = fraction(1, 1)
	return row
}

// reduced takes all states but the start and the ends out of the chain, one after the other: who comes to such a state leaves it at once to where it leads in the end. It returns the chances of the ends from the start, and how many steps that takes on the average.
func (c chain) reduced(start int) (chances []*big.Rat, steps *big.Rat) {
	rows, lengths := make(chain, len(c)), make([]*big.Rat, len(c))
	for i, row := range c {
		rows[i] = slices.Clone(row)
		lengths[i] = fraction(1, 1)
	}
	for s := range c {
		if s == start || c.isEnd(s) {
			continue
		}
		for i := range c {
			if i == s || c.isEnd(i) {
				continue
			}
			visits := new(big.Rat).Quo(rows[i][s], new(big.Rat).Sub(fraction(1, 1), rows[s][s]))
			rows[i][s] = new(big.Rat)
			for j := range c {
				if j != s {
					rows[i][j] = sumOf(rows[i][j], productOf(visits, rows[s][j]))
				}
			}
			lengths[i] = sumOf(lengths[i], productOf(visits, lengths[s]))
		}
	}
	if c.isEnd(start) {
		lengths[start] = new(big.Rat)
	}
	leaves := new(big.Rat).Sub(fraction(1, 1), rows[start][start])
	for _, e := range c.ends() {
		chance := rows[start][e]
		if !c.isEnd(start) {
			chance = new(big.Rat).Quo(chance, leaves)
		}
		chances = append(chances, chance)
	}
	if !c.isEnd(start) {
		lengths[start] = new(big.Rat).Quo(lengths[start], leaves)
	}
	return chances, lengths[start]
}

// attained returns the average rewards if the chain stops at these states, all ends among them.
func (c chain) attained(stops []bool, f []*big.Rat) []*big.Rat {
	s := c.stopped(stops)
	values := make([]*big.Rat, len(c))
	for i := range c {
		chances, _ := s.reduced(i)
		values[i] = new(big.Rat)
		for k, e := range s.ends() {
			values[i] = sumOf(values[i], productOf(chances[k], f[e]))
		}
	}
	return values
}

// stoppings calls visit for all sets of states that have all ends.
func (c chain) stoppings(visit func(stops []bool)) {
	for n := range 1 << len(c) {
		stops := make([]bool, len(c))
		fits := true
		for i := range c {
			stops[i] = n>>i&1 == 1
			fits = fits && (stops[i] || !c.isEnd(i))
		}
		if fits {
			visit(stops)
		}
	}
}

// value returns the greatest average rewards that sets of states at which one stops attain.
func (c chain) value(f []*big.Rat) []*big.Rat {
	var best []*big.Rat
	c.stoppings(func(stops []bool) {
		values := c.attained(stops, f)
		if best == nil {
			best = values
		}
		for i, x := range values {
			if x.Cmp(best[i]) > 0 {
				best[i] = x
			}
		}
	})
	return best
}

func (c chain) isUpper(h []*big.Rat) bool {
	for i := range c {
		if h[i].Sign() < 0 || !c.isEnd(i) && h[i].Cmp(sumOf(fraction(1, 1), c.average(i, h))) < 0 {
			return false
		}
	}
	return true
}

func (c chain) isLower(h []*big.Rat) bool {
	for i := range c {
		if c.isEnd(i) && h[i].Sign() > 0 || !c.isEnd(i) && h[i].Cmp(sumOf(fraction(1, 1), c.average(i, h))) > 0 {
			return false
		}
	}
	return true
}

func (c chain) isValue(f, v []*big.Rat) bool {
	for i := range c {
		best := f[i]
		if s := c.average(i, v); !c.isEnd(i) && s.Cmp(best) > 0 {
			best = s
		}
		if v[i].Cmp(best) != 0 {
			return false
		}
	}
	return true
}

// endsWith reports whether the last numbers of a list are the pattern.
func endsWith(list, pattern []int) bool {
	return len(pattern) <= len(list) && slices.Equal(list[len(list)-len(pattern):], pattern)
}

// within reports whether b occurs within a.
func within(a, b []int) bool {
	for i := range a {
		if endsWith(a[:i+1], b) {
			return true
		}
	}
	return false
}

// drawing returns the chain of the last numbers drawn, as many as the longest pattern has: its first state is that nothing is drawn; it ends where a pattern has come. Of each end it returns the pattern.
func drawing(m int, patterns ...[]int) (c chain, came map[int]int) {
	longest := 0
	for _, pattern := range patterns {
		longest = max(longest, len(pattern))
	}
	states := [][]int{nil}
	next := [][]int{}
	came = map[int]int{}
	for i := 0; i < len(states); i++ {
		next = append(next, nil)
		won := slices.IndexFunc(patterns, func(pattern []int) bool { return endsWith(states[i], pattern) })
		if won >= 0 {
			came[i] = won
			continue
		}
		for x := range m {
			last := append(slices.Clone(states[i]), x)
			last = last[max(0, len(last)-longest):]
			at := slices.IndexFunc(states, func(s []int) bool { return slices.Equal(s, last) })
			if at < 0 {
				at = len(states)
				states = append(states, last)
			}
			next[i] = append(next[i], at)
		}
	}
	for i := range states {
		row := unit(len(states), i)
		if _, is := came[i]; !is {
			row[i] = new(big.Rat)
			for _, j := range next[i] {
				row[j] = sumOf(row[j], fraction(1, int64(m)))
			}
		}
		c = append(c, row)
	}
	return c, came
}

// raced returns for each pattern the chance that it comes first, and how many draws that takes on the average.
func raced(m int, patterns ...[]int) (chances []*big.Rat, draws *big.Rat) {
	c, came := drawing(m, patterns...)
	ends, draws := c.reduced(0)
	chances = make([]*big.Rat, len(patterns))
	for i := range chances {
		chances[i] = new(big.Rat)
	}
	for k, e := range c.ends() {
		chances[came[e]] = sumOf(chances[came[e]], ends[k])
	}
	return chances, draws
}

// leadOf is the definition of the lead.
func leadOf(m int, a, b []int) *big.Int {
	total, power := new(big.Int), big.NewInt(1)
	for k := 1; k <= len(a) && k <= len(b); k++ {
		power = new(big.Int).Mul(power, big.NewInt(int64(m)))
		if endsWith(a, b[:k]) {
			total.Add(total, power)
		}
	}
	return total
}

// night has cards with numbers up to 16 as sets of bits.
type night struct {
	n     int
	cards []uint
}

func newNight(n int, cards [][]int) night {
	result := night{n: n}
	for _, card := range cards {
		var s uint
		for _, x := range card {
			s |= 1 << (x - 1)
		}
		result.cards = append(result.cards, s)
	}
	return result
}

// isFull reports whether some card is full when these numbers are called.
func (x night) isFull(called uint) bool {
	return slices.ContainsFunc(x.cards, func(card uint) bool { return called&card == card })
}

// full counts the sets of so many numbers of which some card is full.
func (x night) full(calls int) *big.Rat {
	good, all := int64(0), int64(0)
	for called := range uint(1) << x.n {
		if bits.OnesCount(called) != calls {
			continue
		}
		all++
		if x.isFull(called) {
			good++
		}
	}
	return fraction(good, all)
}

// moments calls visit for all sets of numbers called and next numbers by which a card is full for the first time, with the chance of that.
func (x night) moments(visit func(called uint, chance *big.Rat)) {
	for before := range uint(1) << x.n {
		if x.isFull(before) {
			continue
		}
		k := bits.OnesCount(before)
		orders := new(big.Int).Binomial(int64(x.n), int64(k))
		orders.Mul(orders, big.NewInt(int64(x.n-k)))
		for i := range x.n {
			called := before | 1<<i
			if called != before && x.isFull(called) {
				visit(called, new(big.Rat).SetFrac(big.NewInt(1), orders))
			}
		}
	}
}

func (x night) calls() *big.Rat {
	total := new(big.Rat)
	x.moments(func(called uint, chance *big.Rat) {
		total = sumOf(total, productOf(chance, fraction(int64(bits.OnesCount(called)), 1)))
	})
	return total
}

func (x night) first() []*big.Rat {
	chances := make([]*big.Rat, len(x.cards))
	for i := range chances {
		chances[i] = new(big.Rat)
	}
	x.moments(func(called uint, chance *big.Rat) {
		for i, card := range x.cards {
			if called&card == card {
				chances[i] = sumOf(chances[i], chance)
			}
		}
	})
	return chances
}

func sameRats(a []tally.Rat, b []*big.Rat) bool {
	return slices.EqualFunc(a, b, func(x tally.Rat, y *big.Rat) bool { return x.String() == y.RatString() })
}

func expectRat(t *testing.T, what string, got tally.Rat, e api.Errno, want *big.Rat) {
	t.Helper()
	if e != api.OK || got.String() != want.RatString() {
		t.Errorf("%s: %v, %d; want %v", what, got, e, want.RatString())
	}
}

func expectRats(t *testing.T, what string, got []tally.Rat, e api.Errno, want []*big.Rat) {
	t.Helper()
	if e != api.OK || !sameRats(got, want) {
		t.Errorf("%s: %v, %d; want %v", what, got, e, want)
	}
}

// expectError checks the error, and that each of the results beside it is a zero value or empty.
func expectError(t *testing.T, what string, e, want api.Errno, results ...any) {
	t.Helper()
	if e != want {
		t.Errorf("%s: error %d; want %d", what, e, want)
	}
	expectNothing(t, what, results...)
}

func expectNothing(t *testing.T, what string, results ...any) {
	t.Helper()
	for _, result := range results {
		v := reflect.ValueOf(result)
		if v.Kind() == reflect.Slice && v.Len() > 0 || v.Kind() != reflect.Slice && !v.IsZero() {
			t.Errorf("%s: %v where there is no result", what, result)
		}
	}
}
