package perm_test

import (
	"fmt"
	"math"
	"math/big"
	"slices"
	"testing"

	"dauber/api"
	"dauber/perm"
)

// allPatterns returns all lists of n colours.
func allPatterns(n, colours int) [][]int {
	if n == 0 {
		return [][]int{nil}
	}
	var all [][]int
	for _, shorter := range allPatterns(n-1, colours) {
		for colour := range colours {
			all = append(all, append(slices.Clone(shorter), colour))
		}
	}
	return all
}

// leastOf returns the least list to which an element brings the pattern.
func leastOf(elements [][]int, pattern []int) []int {
	least := pattern
	for _, p := range elements {
		if brought := bring(p, pattern); slices.Compare(brought, least) < 0 {
			least = brought
		}
	}
	return least
}

// P4.7: Patterns counts the least ones, and Least finds them, of all patterns of few colours.
func TestPatterns(t *testing.T) {
	for n, generators := range small(newRandom()) {
		if n > 7 {
			continue
		}
		g := newGroup(t, n, generators...)
		elements := elementsOf(n, generators)
		for colours := 1; colours <= 3 && len(elements) <= 200; colours++ {
			different := 0
			for _, pattern := range allPatterns(n, colours) {
				want := leastOf(elements, pattern)
				if slices.Equal(want, pattern) {
					different++
				}
				least, e := g.Least(pattern)
				expectList(t, fmt.Sprintf("%v: Least(%v)", generators, pattern), least, e, want)
			}
			count, e := g.Patterns(colours)
			if e != api.OK || toBig(count).Cmp(big.NewInt(int64(different))) != 0 {
				t.Errorf("%v: Patterns(%d): %v, %d; want %d", generators, colours, count, e, different)
			}
		}
	}
}

// averaged is the sum over all elements of the colours to the power of the number of their cycles, by the order.
func averaged(elements [][]int, colours int) *big.Int {
	sum := new(big.Int)
	for _, p := range elements {
		sum.Add(sum, powerOf(colours, len(cyclesOf(p))))
	}
	return sum.Div(sum, big.NewInt(int64(len(elements))))
}

// P4.10: the number of patterns times the order is Burnside's sum.
func TestBurnside(t *testing.T) {
	for n, generators := range small(newRandom()) {
		g := newGroup(t, n, generators...)
		elements := elementsOf(n, generators)
		for _, colours := range []int{1, 2, 5, 10, 99, 100} {
			count, e := g.Patterns(colours)
			if want := averaged(elements, colours); e != api.OK || toBig(count).Cmp(want) != 0 {
				t.Errorf("%v: Patterns(%d): %v, %d; want %v", generators, colours, count, e, want)
			}
		}
	}
}

// P4.7, P4.10: as many colours and elements as there may be. Patterns of points that nothing mixes are counted apart.
func TestLargePatterns(t *testing.T) {
	for n := 1; n <= 20; n++ {
		g := newGroup(t, n)
		count, e := g.Patterns(100)
		if e != api.OK || toBig(count).Cmp(powerOf(100, n)) != 0 {
			t.Errorf("Patterns(100) of %d points: %v, %d", n, count, e)
		}
	}
	limit := slices.Concat(symmetric(20, 0, 4), square(20, 4), square(20, 8), square(20, 12), [][]int{cycled(20, from(16, 4))})
	g := newGroup(t, 20, limit...)
	s4, d4, c4 := elementsOf(4, symmetric(4, 0, 4)), elementsOf(4, square(4, 0)), elementsOf(4, [][]int{cycled(4, from(0, 4))})
	for _, colours := range []int{1, 2, 3, 100} {
		want := averaged(s4, colours)
		for _, part := range [][][]int{d4, d4, d4, c4} {
			want.Mul(want, averaged(part, colours))
		}
		count, e := g.Patterns(colours)
		if e != api.OK || toBig(count).Cmp(want) != 0 {
			t.Errorf("Patterns(%d) of 49152 elements: %v, %d; want %v", colours, count, e, want)
		}
	}
	least, e := g.Least([]int{3, 1, 2, 0, 7, 8, 7, 9, 1, 0, 0, 0, 5, 5, 5, 4, 3, 2, 1, 2})
	expectList(t, "Least by 49152 elements", least, e, []int{0, 1, 2, 3, 7, 8, 7, 9, 0, 0, 0, 1, 4, 5, 5, 5, 1, 2, 3, 2})
}

// P4.7: colours of patterns may be as large as numbers are.
func TestLargeColours(t *testing.T) {
	square := newGroup(t, 4, []int{1, 2, 3, 0}, []int{3, 2, 1, 0})
	elements := elementsOf(4, [][]int{{1, 2, 3, 0}, {3, 2, 1, 0}})
	colours := []int{0, 1, 255, 256, 257, 1 << 32, math.MaxInt - 1, math.MaxInt}
	r := newRandom()
	for range 500 {
		var pattern []int
		for range 4 {
			pattern = append(pattern, colours[r.IntN(len(colours))])
		}
		least, e := square.Least(pattern)
		expectList(t, fmt.Sprint("Least", pattern), least, e, leastOf(elements, pattern))
	}
	turned := newGroup(t, 3, []int{1, 2, 0})
	least, e := turned.Least([]int{2, 1, 0})
	expectList(t, "Least of three points", least, e, []int{0, 2, 1})
}

// P4.7: colours that are not in range come before groups that are too large.
func TestPatternErrors(t *testing.T) {
	for _, x := range large() {
		g := newGroup(t, x.n, x.generators...)
		for _, colours := range []int{0, -1, 101, 102, math.MinInt, math.MaxInt, 1<<32 + 2} {
			count, e := g.Patterns(colours)
			expectError(t, fmt.Sprint(x.name, ": Patterns ", colours), e, api.ErrArg, count)
		}
		for _, n := range []int{0, 1, x.n - 1, x.n + 1, 20, 21, 1 << 20} {
			for _, colour := range []int{0, -1} {
				if n != x.n {
					least, e := g.Least(slices.Repeat([]int{colour}, n))
					expectError(t, fmt.Sprint(x.name, ": Least of ", n), e, api.ErrShape, least)
				}
			}
		}
		for i := range x.n {
			for _, colour := range []int{-1, -2, math.MinInt} {
				pattern := make([]int, x.n)
				pattern[i] = colour
				least, e := g.Least(pattern)
				expectError(t, fmt.Sprint(x.name, ": Least", pattern), e, api.ErrArg, least)
			}
		}
		expectSize(t, x, g)
	}
}

// expectSize checks that a group of more than 50000 elements is too large, for any pattern and number of colours, and others are not.
func expectSize(t *testing.T, x sample, g *perm.Group) {
	t.Helper()
	count, e := g.Patterns(1)
	least, f := g.Least(make([]int, x.n))
	if x.order <= 50000 {
		expectList(t, x.name+": Least", least, f, make([]int, x.n))
		if e != api.OK || count.String() != "1" {
			t.Errorf("%s: Patterns(1): %v, %d", x.name, count, e)
		}
		return
	}
	expectError(t, x.name+": Patterns", e, api.ErrLarge, count)
	expectError(t, x.name+": Least", f, api.ErrLarge, least)
	count, e = g.Patterns(100)
	expectError(t, x.name+": Patterns", e, api.ErrLarge, count)
}
