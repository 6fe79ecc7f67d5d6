package perm_test

import (
	"fmt"
	"math"
	"slices"
	"testing"

	"dauber/api"
	"dauber/perm"
)

// P4.3: groups of which all elements can be gone through.
func TestSmallGroups(t *testing.T) {
	for n, generators := range small(newRandom()) {
		g := newGroup(t, n, generators...)
		elements := elementsOf(n, generators)
		if g.Points() != n || g.Order() != int64(len(elements)) {
			t.Fatalf("%v: %d points, order %d; want %d", generators, g.Points(), g.Order(), len(elements))
		}
		expectElements(t, g, elements)
		expectRows(t, fmt.Sprint("Orbits of ", generators), g.Orbits(), api.OK, orbitsOf(n, generators))
	}
}

// expectElements checks that the group has just these elements.
func expectElements(t *testing.T, g *perm.Group, elements [][]int) {
	t.Helper()
	n := len(elements[0])
	if g.Points() != n || g.Order() != int64(len(elements)) {
		t.Errorf("%d points, order %d; want %d, %d", g.Points(), g.Order(), n, len(elements))
	}
	for _, p := range elements {
		if !g.Has(p) {
			t.Errorf("no element: %v", p)
		}
	}
	if n > 6 {
		return
	}
	for _, p := range permutations(n) {
		if g.Has(p) != has(elements, p) {
			t.Errorf("Has(%v): %v", p, g.Has(p))
		}
	}
}

func orbitsOf(n int, generators [][]int) [][]int {
	var orbits [][]int
	for x := range n {
		if orbit := orbitUnder(generators, x); orbit[0] == x {
			orbits = append(orbits, orbit)
		}
	}
	return orbits
}

// P4.3: orders and orbits of large groups; what is generated is an element.
func TestLargeGroups(t *testing.T) {
	r := newRandom()
	for _, x := range large() {
		g := newGroup(t, x.n, x.generators...)
		if g.Points() != x.n || g.Order() != x.order {
			t.Errorf("%s: %d points, order %d", x.name, g.Points(), g.Order())
		}
		expectRows(t, "Orbits of "+x.name, g.Orbits(), api.OK, orbitsOf(x.n, x.generators))
		p := identity(x.n)
		for range 100 {
			if !g.Has(p) || !g.Has(inverse(p)) {
				t.Errorf("%s: no element: %v", x.name, p)
			}
			if len(x.generators) > 0 {
				p = product(p, x.generators[r.IntN(len(x.generators))])
			}
		}
	}
}

// P4.3: Has of permutations that are no elements: of one in so many.
func TestHasNot(t *testing.T) {
	r := newRandom()
	for _, x := range large() {
		g := newGroup(t, x.n, x.generators...)
		count := 0
		for range 400 {
			p := r.Perm(x.n)
			if x.name == "A20" && g.Has(p) != (signOf(p) == 1) {
				t.Errorf("A20 and %v: %v", p, g.Has(p))
			}
			if g.Has(p) {
				count++
			}
		}
		share := float64(x.order) / float64(factorial(x.n))
		if math.Abs(float64(count)/400-share) > 0.1 || share < 1e-6 && count > 0 {
			t.Errorf("%s: %d of 400 are elements, of all permutations %g", x.name, count, share)
		}
		others := append(notPermutations(), r.Perm(x.n%20+1), identity(x.n%20+1), append(identity(x.n), x.n))
		if x.n > 1 {
			others = append(others, identity(x.n-1))
		}
		for _, p := range others {
			if len(p) != x.n && g.Has(p) || len(p) == x.n && !isPermutation(p) && g.Has(p) {
				t.Errorf("%s: Has(%v)", x.name, p[:min(len(p), 30)])
			}
		}
	}
}

// P4.3, P4.9: strong lists are strong by the definition, of groups of which all elements can be gone through.
func TestStrong(t *testing.T) {
	for n, generators := range small(newRandom()) {
		g := newGroup(t, n, generators...)
		elements := elementsOf(n, generators)
		strong := g.Strong()
		for _, p := range strong {
			if !has(elements, p) {
				t.Fatalf("Strong of %v: %v is no element", generators, p)
			}
		}
		for i := range n + 1 {
			got := elementsOf(n, leaving(strong, i))
			expectRows(t, fmt.Sprintf("%v: what the strong list %v generates at %d", generators, strong, i), got, api.OK, leaving(elements, i))
		}
	}
}

// P4.3, P4.9: strong lists of large groups: the orbits have the order as their product, so that the lists are strong.
func TestLargeStrong(t *testing.T) {
	for _, x := range large() {
		g := newGroup(t, x.n, x.generators...)
		strong := g.Strong()
		if len(strong) > 400 {
			t.Errorf("%s: %d strong elements", x.name, len(strong))
		}
		order := int64(1)
		for i := range x.n {
			order *= int64(len(orbitUnder(leaving(strong, i), i)))
		}
		if order != x.order {
			t.Errorf("%s: the orbits' product is %d", x.name, order)
		}
		for _, p := range strong {
			if !isPermutation(p) || len(p) != x.n || !g.Has(p) {
				t.Errorf("%s: %v is no element", x.name, p)
			}
		}
	}
}

// P4.8: the order is that of an orbit times that of the group that leaves the point; those of elements divide it, and there is one for each prime.
func TestLagrange(t *testing.T) {
	for n, generators := range small(newRandom()) {
		g := newGroup(t, n, generators...)
		orders := map[int64]bool{}
		for k := range g.Order() {
			p, _ := g.Element(k)
			orders[orderOf(p)] = true
		}
		expectOrders(t, g, orders)
	}
	r := newRandom()
	for _, x := range large() {
		g := newGroup(t, x.n, x.generators...)
		orders := map[int64]bool{}
		for range 4000 {
			p, _ := g.Element(r.Int64N(g.Order()))
			order := orderOf(p)
			orders[order] = true
			for _, prime := range []int64{2, 3, 5, 7, 11, 13, 17, 19} {
				if order%prime == 0 {
					orders[prime] = true // its power has that order
				}
			}
		}
		expectOrders(t, g, orders)
	}
}

func expectOrders(t *testing.T, g *perm.Group, orders map[int64]bool) {
	t.Helper()
	for order := range orders {
		if g.Order()%order != 0 {
			t.Errorf("order %d: an element of order %d", g.Order(), order)
		}
	}
	for _, prime := range []int64{2, 3, 5, 7, 11, 13, 17, 19} {
		if (g.Order()%prime == 0) != orders[prime] {
			t.Errorf("order %d: elements of order %d: %v", g.Order(), prime, orders[prime])
		}
	}
	for point := range g.Points() {
		fixing, e := g.Fixing(point)
		orbit := g.Orbits()[slices.IndexFunc(g.Orbits(), func(o []int) bool { return slices.Contains(o, point) })]
		expectNumber(t, "the order that Fixing leaves", fixing.Order()*int64(len(orbit)), e, g.Order())
	}
}

// P4.3: generators that are none, or of other points, come before too many of them; the number of points comes first.
func TestNewErrors(t *testing.T) {
	for _, n := range []int{0, -1, 21, math.MinInt, math.MaxInt, 1 << 32} {
		for _, generators := range [][][]int{nil, {{0}}, {nil}, slices.Repeat([][]int{{0}}, 17), {identity(21)}} {
			g, e := perm.New(n, generators)
			expectError(t, fmt.Sprint("New ", n), e, api.ErrPerm, g)
		}
	}
	for n := 1; n <= 20; n++ {
		good := slices.Repeat([][]int{identity(n)}, 15)
		newGroup(t, n, append(good, mirrored(n))...)
		for _, more := range []int{17, 18, 1000} {
			g, e := perm.New(n, slices.Repeat([][]int{mirrored(n)}, more))
			expectError(t, fmt.Sprint("New of ", more), e, api.ErrLong, g)
		}
		for _, bad := range append(notPermutations(), identity(n%20+1), identity(max(1, n-1)), append(identity(n), n)) {
			if slices.Equal(bad, identity(n)) {
				continue
			}
			for _, generators := range [][][]int{{bad}, {mirrored(n), bad}, {bad, mirrored(n)}, append(slices.Repeat(good, 2), bad), slices.Insert(slices.Repeat(good, 2), 3, bad)} {
				g, e := perm.New(n, generators)
				expectError(t, fmt.Sprint("New ", n, " with ", len(bad)), e, api.ErrPerm, g)
			}
		}
	}
}

// P4.3: groups without generators, and of one point.
func TestTrivialGroups(t *testing.T) {
	for n := 1; n <= 20; n++ {
		for _, generators := range [][][]int{nil, {}, {identity(n)}, slices.Repeat([][]int{identity(n)}, 16)} {
			g := newGroup(t, n, generators...)
			fixing, e := g.Fixing(n - 1)
			for _, h := range []*perm.Group{g, g.Derived(), fixing} {
				if h.Points() != n || h.Order() != 1 || !h.Soluble() || len(h.Strong()) != 0 || len(h.Orbits()) != n || e != api.OK {
					t.Errorf("%d points: %d points, order %d, %v, %v", n, h.Points(), h.Order(), h.Strong(), h.Orbits())
				}
				if !h.Has(identity(n)) || n > 1 && h.Has(mirrored(n)) {
					t.Errorf("%d points: not the identity alone", n)
				}
				p, e := h.Element(0)
				expectList(t, "Element", p, e, identity(n))
			}
		}
	}
}

// The chapter: a nil group has nothing, and its errors come before all others.
func TestNil(t *testing.T) {
	var g *perm.Group
	if g.Points() != 0 || g.Order() != 0 || g.Soluble() || g.Strong() != nil || g.Orbits() != nil || g.Derived() != nil {
		t.Error("a nil group has something")
	}
	for _, p := range [][]int{nil, {0}, {0, 0}, identity(21)} {
		if g.Has(p) || g.Spells(nil, p) || g.Spells([][2]int{{0, -1}}, p) {
			t.Errorf("a nil group has %v", p)
		}
		word, e := g.Word(p)
		expectError(t, "Word", e, api.ErrNil, word)
		place, e := g.Place(p)
		expectError(t, "Place", e, api.ErrNil, place)
		q, e := g.Conjugate(p, []int{0})
		expectError(t, "Conjugate", e, api.ErrNil, q)
		q, e = g.Least(p)
		expectError(t, "Least", e, api.ErrNil, q)
	}
	for _, n := range []int{0, 1, -1, 21, math.MinInt, math.MaxInt} {
		p, e := g.Element(int64(n))
		expectError(t, "Element", e, api.ErrNil, p)
		fixing, e := g.Fixing(n)
		expectError(t, "Fixing", e, api.ErrNil, fixing)
		p, e = g.Block(n, 0)
		expectError(t, "Block", e, api.ErrNil, p)
		patterns, e := g.Patterns(n)
		expectError(t, "Patterns", e, api.ErrNil, patterns)
	}
}
