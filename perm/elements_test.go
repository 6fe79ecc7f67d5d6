package perm_test

import (
	"fmt"
	"math"
	"slices"
	"testing"

	"dauber/api"
	"dauber/perm"
)

// expectAll checks that Element numbers just these elements, and that Place is its inverse.
func expectAll(t *testing.T, what string, g *perm.Group, elements [][]int) {
	t.Helper()
	expectElements(t, g, elements)
	for k, want := range elements {
		p, e := g.Element(int64(k))
		expectList(t, fmt.Sprint(what, ": Element ", k), p, e, want)
		place, e := g.Place(want)
		expectNumber(t, fmt.Sprint(what, ": Place", want), place, e, int64(k))
	}
}

// P4.5, P4.11: all elements of small groups, and those that leave a point where it is.
func TestElements(t *testing.T) {
	for n, generators := range small(newRandom()) {
		g := newGroup(t, n, generators...)
		elements := elementsOf(n, generators)
		expectAll(t, fmt.Sprint(generators), g, elements)
		for point := range n {
			var leave [][]int
			for _, p := range elements {
				if p[point] == point {
					leave = append(leave, p)
				}
			}
			fixing, e := g.Fixing(point)
			if e != api.OK {
				t.Fatalf("Fixing(%d): %d", point, e)
			}
			expectAll(t, fmt.Sprint(generators, " fixing ", point), fixing, leave)
		}
	}
}

// P4.5, P4.11: elements of large groups rise with their places.
func TestLargeElements(t *testing.T) {
	r := newRandom()
	for _, x := range large() {
		g := newGroup(t, x.n, x.generators...)
		first, e := g.Element(0)
		expectList(t, "the first element", first, e, identity(x.n))
		var places []int64
		for range 60 {
			k := r.Int64N(g.Order())
			places = append(places, k, min(k+1, g.Order()-1))
		}
		slices.Sort(places)
		places = slices.Compact(places)
		last := first
		for _, k := range append(places, g.Order()-1) {
			p, e := g.Element(k)
			if e != api.OK || !isPermutation(p) || len(p) != x.n || slices.Compare(p, last) < 0 || !g.Has(p) {
				t.Errorf("%s: Element(%d): %v, %d after %v", x.name, k, p, e, last)
			}
			place, e := g.Place(p)
			expectNumber(t, x.name+": Place", place, e, k)
			last = p
		}
	}
	all := newGroup(t, 20, symmetric(20, 0, 20)...)
	for range 100 {
		p := r.Perm(20)
		rank, _ := perm.Rank(p)
		place, e := all.Place(p)
		expectNumber(t, "Place among all", place, e, rank)
	}
}

// P4.5: places that are not in range.
func TestElementErrors(t *testing.T) {
	for _, x := range large() {
		g := newGroup(t, x.n, x.generators...)
		for _, k := range []int64{-1, -2, -x.order, x.order, x.order + 1, math.MinInt64, math.MaxInt64} {
			p, e := g.Element(k)
			expectError(t, fmt.Sprint(x.name, ": Element ", k), e, api.ErrArg, p)
		}
		for _, point := range []int{-1, x.n, 20, 21, math.MinInt, math.MaxInt, 1 << 32} {
			fixing, e := g.Fixing(point)
			expectError(t, fmt.Sprint(x.name, ": Fixing ", point), e, api.ErrArg, fixing)
		}
	}
}

// P4.1, P4.4, P4.5: lists that are no permutations come before those of other points, these before those that are no elements.
func TestElementOrderOfErrors(t *testing.T) {
	for _, x := range large() {
		g := newGroup(t, x.n, x.generators...)
		expect := func(p []int, want api.Errno) {
			t.Helper()
			what := fmt.Sprint(x.name, p[:min(len(p), 20)])
			word, e := g.Word(p)
			expectError(t, "Word "+what, e, want, word)
			place, e := g.Place(p)
			expectError(t, "Place "+what, e, want, place)
			if g.Has(p) {
				t.Errorf("Has %s", what)
			}
		}
		for _, p := range notPermutations() {
			expect(p, api.ErrPerm)
		}
		for n := 1; n <= 20; n++ {
			if n != x.n {
				expect(identity(n), api.ErrShape)
				expect(mirrored(n), api.ErrShape)
			}
		}
		if x.n > 1 && x.order < factorial(x.n)/2 {
			expect(swapped(x.n, 0, x.n-1), api.ErrNone)
		}
	}
}
