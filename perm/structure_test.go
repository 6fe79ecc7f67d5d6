package perm_test

import (
	"fmt"
	"math"
	"slices"
	"testing"

	"dauber/api"
)

// isBlock is the definition.
func isBlock(elements [][]int, set []int) bool {
	for _, p := range elements {
		common := 0
		for _, x := range set {
			if slices.Contains(set, p[x]) {
				common++
			}
		}
		if common > 0 && common < len(set) {
			return false
		}
	}
	return true
}

// blockOf goes through all sets of points and returns the smallest one that is a block with a and b.
func blockOf(elements [][]int, a, b int) []int {
	n := len(elements[0])
	least := identity(n)
	for bits := range 1 << n {
		var set []int
		for x := range n {
			if bits>>x&1 == 1 {
				set = append(set, x)
			}
		}
		if len(set) < len(least) && slices.Contains(set, a) && slices.Contains(set, b) && isBlock(elements, set) {
			least = set
		}
	}
	return least
}

// P4.6: the least blocks of small groups, for all pairs of points.
func TestBlock(t *testing.T) {
	blocks := 0
	for n, generators := range small(newRandom()) {
		g := newGroup(t, n, generators...)
		elements := elementsOf(n, generators)
		moves := len(orbitUnder(generators, 0)) == n
		for a := range n {
			for b := range n {
				block, e := g.Block(a, b)
				switch {
				case a == b:
					expectError(t, "Block of one point", e, api.ErrArg, block)
				case !moves:
					expectError(t, fmt.Sprint("Block of ", generators), e, api.ErrNone, block)
				default:
					expectList(t, fmt.Sprintf("%v: Block(%d, %d)", generators, a, b), block, e, blockOf(elements, a, b))
				}
				if len(block) < n && len(block) > 1 {
					blocks++
				}
			}
		}
	}
	if blocks < 100 {
		t.Errorf("only %d blocks", blocks)
	}
}

// P4.6: blocks of many points: the rounds of n points have those of the divisors of n, wreath products those of which they are made.
func TestLargeBlocks(t *testing.T) {
	for n := 2; n <= 20; n++ {
		g := newGroup(t, n, cycled(n, from(0, n)))
		for a := range n {
			for b := range n {
				if a == b {
					continue
				}
				step := max(a-b, b-a)
				for n%step != 0 || max(a-b, b-a)%step != 0 {
					step--
				}
				var want []int
				for x := a % step; x < n; x += step {
					want = append(want, x)
				}
				block, e := g.Block(a, b)
				expectList(t, fmt.Sprintf("Block(%d, %d) of %d", a, b, n), block, e, want)
			}
		}
	}
	for _, x := range [][2]int{{2, 10}, {5, 4}, {10, 2}, {4, 5}, {2, 9}} {
		n := x[0] * x[1]
		g := newGroup(t, n, wreath(x[0], x[1])...)
		for a := range n {
			for b := range n {
				want := from(a/x[0]*x[0], x[0])
				if a/x[0] != b/x[0] {
					want = identity(n)
				}
				if block, e := g.Block(a, b); a != b {
					expectList(t, fmt.Sprintf("Block(%d, %d) of %v", a, b, x), block, e, want)
				}
			}
		}
	}
}

// P4.6: points that there are not, or the same twice, come before an orbit of 0 without all points.
func TestBlockErrors(t *testing.T) {
	for _, x := range large() {
		g := newGroup(t, x.n, x.generators...)
		for _, bad := range []int{-1, x.n, x.n + 1, 20, 21, 256, math.MinInt, math.MaxInt} {
			for _, pair := range [][2]int{{bad, 0}, {0, bad}, {bad, bad}, {x.n - 1, bad}} {
				block, e := g.Block(pair[0], pair[1])
				expectError(t, fmt.Sprint(x.name, ": Block", pair), e, api.ErrArg, block)
			}
		}
		for a := range x.n {
			block, e := g.Block(a, a)
			expectError(t, x.name+": Block of one point", e, api.ErrArg, block)
			if b := (a + 1) % x.n; a != b && len(orbitUnder(x.generators, 0)) < x.n {
				block, e = g.Block(a, b)
				expectError(t, x.name+": Block", e, api.ErrNone, block)
			}
		}
	}
}

// derivedOf returns the elements of the derived group: it goes through all pairs of elements.
func derivedOf(elements [][]int) [][]int {
	var generators [][]int
	known := map[string]bool{}
	for _, a := range elements {
		for _, b := range elements {
			if c := commutator(a, b); !known[key(c)] {
				known[key(c)] = true
				generators = append(generators, c)
			}
		}
	}
	return elementsOf(len(elements[0]), generators)
}

// P4.6, P4.12: derived groups of small groups, and whether these are soluble.
func TestDerived(t *testing.T) {
	soluble := map[bool]int{}
	for n, generators := range small(newRandom()) {
		g := newGroup(t, n, generators...)
		elements := elementsOf(n, generators)
		if len(elements) > 400 {
			continue
		}
		derived := derivedOf(elements)
		expectAll(t, fmt.Sprint("derived of ", generators), g.Derived(), derived)
		want := true
		for len(derived) > 1 && want {
			want = len(derived) < len(elements)
			elements, derived = derived, derivedOf(derived)
		}
		if g.Soluble() != want {
			t.Errorf("%v: Soluble is %v", generators, g.Soluble())
		}
		soluble[want]++
	}
	if soluble[true] < 100 || soluble[false] < 10 {
		t.Errorf("soluble or not: %v", soluble)
	}
}

// P4.6, P4.12: derived groups of large groups.
func TestLargeDerived(t *testing.T) {
	r := newRandom()
	for _, x := range large() {
		g := newGroup(t, x.n, x.generators...)
		d := g.Derived()
		if d.Points() != x.n || d.Order() != x.derived || g.Order()%d.Order() != 0 || g.Soluble() != x.soluble {
			t.Errorf("%s: derived %d, soluble %v", x.name, d.Order(), g.Soluble())
		}
		for range 100 {
			a, _ := g.Element(r.Int64N(g.Order()))
			b, _ := g.Element(r.Int64N(g.Order()))
			if !d.Has(commutator(a, b)) {
				t.Errorf("%s: the derived group has not %v", x.name, commutator(a, b))
			}
			c, _ := d.Element(r.Int64N(d.Order()))
			if !g.Has(c) || !d.Has(product(inverse(a), c, a)) {
				t.Errorf("%s: %v of the derived group", x.name, c)
			}
		}
	}
}

// conjugateOf returns the first element that brings a to b.
func conjugateOf(elements [][]int, a, b []int) []int {
	for _, p := range elements {
		if slices.Equal(product(inverse(p), a, p), b) {
			return p
		}
	}
	return nil
}

// P4.6: Conjugate of all pairs of elements of small groups, and of permutations that are no elements.
func TestConjugate(t *testing.T) {
	r := newRandom()
	for n, generators := range small(r) {
		g := newGroup(t, n, generators...)
		elements := elementsOf(n, generators)
		for range min(len(elements)*len(elements), 200) {
			a, b := elements[r.IntN(len(elements))], elements[r.IntN(len(elements))]
			if p := elements[r.IntN(len(elements))]; r.IntN(2) == 0 {
				b = product(inverse(p), a, p)
			}
			if r.IntN(8) == 0 {
				b = r.Perm(n)
			}
			if r.IntN(8) == 0 {
				a = r.Perm(n)
			}
			want := conjugateOf(elements, a, b)
			p, e := g.Conjugate(a, b)
			what := fmt.Sprintf("%v: Conjugate(%v, %v)", generators, a, b)
			if want == nil || !has(elements, a) || !has(elements, b) {
				expectError(t, what, e, api.ErrNone, p)
			} else {
				expectList(t, what, p, e, want)
			}
		}
	}
	s4 := newGroup(t, 4, symmetric(4, 0, 4)...)
	p, e := s4.Conjugate([]int{1, 0, 2, 3}, []int{0, 1, 3, 2})
	expectList(t, "Conjugate", p, e, []int{2, 3, 0, 1})
}

// P4.6: of groups with up to 50000 elements, and of larger ones; what is no element comes before their size, and that before conjugates that there are not.
func TestLargeConjugate(t *testing.T) {
	r := newRandom()
	for _, x := range large() {
		g := newGroup(t, x.n, x.generators...)
		for range 4 {
			a, _ := g.Element(r.Int64N(g.Order()))
			q, _ := g.Element(r.Int64N(g.Order()))
			b := product(inverse(q), a, q)
			p, e := g.Conjugate(a, b)
			if x.order > 50000 {
				expectError(t, x.name+": Conjugate", e, api.ErrLarge, p)
				p, e = g.Conjugate(identity(x.n), x.generators[0])
				expectError(t, x.name+": Conjugate", e, api.ErrLarge, p)
			} else if e != api.OK || !g.Has(p) || slices.Compare(p, q) > 0 || !slices.Equal(product(a, p), product(p, b)) {
				t.Errorf("%s: Conjugate(%v, %v): %v, %d", x.name, a, b, p, e)
			}
			if other := swapped(x.n, 0, x.n-1); !g.Has(other) {
				for _, pair := range [][2][]int{{other, a}, {a, other}, {other, other}} {
					p, e = g.Conjugate(pair[0], pair[1])
					expectError(t, x.name+": Conjugate of no element", e, api.ErrNone, p)
				}
			}
		}
	}
}

// P4.1, P4.6: lists that are no permutations come before those of other points, these before what is no element.
func TestConjugateErrors(t *testing.T) {
	for _, n := range []int{1, 2, 3, 19, 20} {
		g := newGroup(t, n)
		for m := 1; m <= 20; m++ {
			for _, other := range [][]int{identity(m), mirrored(m)} {
				for _, own := range [][]int{identity(n), mirrored(n), other} {
					if m == n {
						continue
					}
					p, e := g.Conjugate(own, other)
					expectError(t, fmt.Sprint("Conjugate", own, other), e, api.ErrShape, p)
					p, e = g.Conjugate(other, own)
					expectError(t, fmt.Sprint("Conjugate", other, own), e, api.ErrShape, p)
				}
			}
		}
		for _, bad := range notPermutations() {
			for _, good := range [][]int{identity(n), mirrored(n), identity(n%20 + 1), bad} {
				p, e := g.Conjugate(bad, good)
				expectError(t, "Conjugate", e, api.ErrPerm, p)
				p, e = g.Conjugate(good, bad)
				expectError(t, "Conjugate", e, api.ErrPerm, p)
			}
		}
	}
}

// The chapter's examples.
func TestExamples(t *testing.T) {
	g := newGroup(t, 4, []int{1, 2, 3, 0}, []int{3, 2, 1, 0})
	first, e := g.Element(0)
	expectList(t, "Element(0)", first, e, []int{0, 1, 2, 3})
	second, e := g.Element(1)
	expectList(t, "Element(1)", second, e, []int{0, 3, 2, 1})
	patterns, e := g.Patterns(2)
	if g.Order() != 8 || e != api.OK || patterns.String() != "6" || g.Derived().Order() != 2 || !g.Soluble() {
		t.Errorf("the square: %d, %v, %d", g.Order(), patterns, g.Derived().Order())
	}
	block, e := g.Block(0, 2)
	expectList(t, "Block(0, 2)", block, e, []int{0, 2})
	a5 := newGroup(t, 5, []int{1, 2, 3, 4, 0}, []int{1, 2, 0, 3, 4})
	if a5.Order() != 60 || a5.Derived().Order() != 60 || a5.Soluble() {
		t.Errorf("A5: %d, %d", a5.Order(), a5.Derived().Order())
	}
}
