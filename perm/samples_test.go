package perm_test

import (
	"iter"
	"math/rand/v2"
	"slices"
)

// sample is a group by its generators.
type sample struct {
	name       string
	n          int
	generators [][]int
	order      int64
	soluble    bool
	derived    int64 // the order of the derived group
}

// large returns groups of which orders and solubility are known.
func large() []sample {
	return []sample{
		{"one point", 1, nil, 1, true, 1},
		{"one point and the identity", 1, [][]int{{0}}, 1, true, 1},
		{"twenty points", 20, nil, 1, true, 1},
		{"S20", 20, symmetric(20, 0, 20), factorial(20), false, factorial(20) / 2},
		{"S20 by 16", 20, swaps(20, 16, 4), factorial(20), false, factorial(20) / 2},
		{"A20", 20, alternating(20), factorial(20) / 2, false, factorial(20) / 2},
		{"S19 and a point", 20, symmetric(20, 1, 19), factorial(19), false, factorial(19) / 2},
		{"S10 x S10", 20, slices.Concat(symmetric(20, 0, 10), symmetric(20, 10, 10)), factorial(10) * factorial(10), false, factorial(10) * factorial(10) / 4},
		{"S10 wr S2", 20, wreath(10, 2), factorial(10) * factorial(10) * 2, false, factorial(10) * factorial(10) / 2},
		{"S2 wr S10", 20, wreath(2, 10), 1024 * factorial(10), false, 256 * factorial(10)},
		{"S5 wr S4", 20, wreath(5, 4), 120 * 120 * 120 * 120 * 24, false, 120 * 120 * 120 * 120 * 6},
		{"S4 wr S4", 16, wreath(4, 4), 24 * 24 * 24 * 24 * 24, true, 24 * 24 * 24 * 24 * 6},
		{"C2 x .. x C2", 20, pairs(20), 1024, true, 1},
		{"C20", 20, [][]int{cycled(20, from(0, 20))}, 20, true, 1},
		{"D20", 20, [][]int{cycled(20, from(0, 20)), mirrored(20)}, 40, true, 10},
		{"AGL(1, 19)", 19, [][]int{affine(19, 1, 1), affine(19, 2, 0)}, 342, true, 19},
		{"PSL(2, 19)", 20, [][]int{moebius(19, 1, 1), moebius(19, 4, 0), moebius(19, 0, 0)}, 3420, false, 3420},
		{"PGL(2, 19)", 20, [][]int{moebius(19, 1, 1), moebius(19, 2, 0), moebius(19, 0, 0)}, 6840, false, 3420},
		{"PSL(2, 7)", 8, [][]int{moebius(7, 1, 1), moebius(7, 2, 0), moebius(7, 0, 0)}, 168, false, 168},
		{"M11", 11, [][]int{cycled(11, from(0, 11)), cycled(11, []int{2, 6, 10, 7}, []int{3, 9, 4, 5})}, 7920, false, 7920},
		{"M12", 12, [][]int{cycled(12, from(0, 11)), cycled(12, []int{2, 6, 10, 7}, []int{3, 9, 4, 5}), {11, 10, 5, 7, 8, 2, 9, 3, 4, 6, 1, 0}}, 95040, false, 95040},
		{"AGL(4, 2)", 16, linear(), 322560, false, 322560},
		{"just small enough", 20, slices.Concat(symmetric(20, 0, 4), square(20, 4), square(20, 8), square(20, 12), [][]int{cycled(20, from(16, 4))}), 49152, true, 12 * 8},
		{"a little too large", 14, append(symmetric(14, 0, 7), cycled(14, from(7, 5), from(12, 2))), 50400, false, 2520},
	}
}

// symmetric returns generators of all permutations of the count points from first on.
func symmetric(n, first, count int) [][]int {
	return [][]int{cycled(n, from(first, count)), swapped(n, first, first+1)}
}

func alternating(n int) [][]int {
	var generators [][]int
	for i := 2; i < n && len(generators) < 16; i++ {
		generators = append(generators, cycled(n, []int{i - 2, i - 1, i}))
	}
	return append(generators[:14], cycled(n, from(0, n-1)), cycled(n, from(1, n-1)))
}

// swaps returns exchanges of neighbours, after cycles that bring the last points there.
func swaps(n, count, cycles int) [][]int {
	var generators [][]int
	for i := range cycles {
		generators = append(generators, cycled(n, from(count-cycles+i, n-count+cycles-i)))
	}
	for i := range count - cycles {
		generators = append(generators, swapped(n, i, i+1))
	}
	return generators
}

// wreath returns generators of all permutations within blocks of size points, and of the blocks.
func wreath(size, blocks int) [][]int {
	n := size * blocks
	generators := symmetric(n, 0, size)
	for _, p := range symmetric(blocks, 0, blocks) {
		q := make([]int, n)
		for i := range q {
			q[i] = p[i/size]*size + i%size
		}
		generators = append(generators, q)
	}
	return generators
}

func pairs(n int) [][]int {
	var generators [][]int
	for i := 0; i < n; i += 2 {
		generators = append(generators, swapped(n, i, i+1))
	}
	return generators
}

// square returns generators of the symmetries of a square with the corners from first on.
func square(n, first int) [][]int {
	return [][]int{cycled(n, from(first, 4)), swapped(n, first, first+2)}
}

func mirrored(n int) []int {
	p := identity(n)
	slices.Reverse(p)
	return p
}

// affine returns the permutation of the remainders of a prime from x to a x + b.
func affine(prime, a, b int) []int {
	p := make([]int, prime)
	for x := range p {
		p[x] = (a*x + b) % prime
	}
	return p
}

// moebius returns the permutation of the remainders of a prime and of infinity, the last point, from x to a x + b, or, if a is 0, to -1 / x.
func moebius(prime, a, b int) []int {
	if a != 0 {
		return append(affine(prime, a, b), prime)
	}
	p := make([]int, prime+1)
	for x := range prime {
		for y := range prime {
			if x*y%prime == prime-1 {
				p[x] = y
			}
		}
	}
	p[0], p[prime] = prime, 0
	return p
}

// linear returns generators of the affine permutations of lists of four bits: all bits move on, one is added to another one, and 1 is added to one.
func linear() [][]int {
	var p, q, s []int
	for x := range 16 {
		p = append(p, x*2%16+x/8)
		q = append(q, x^(x&1*2))
		s = append(s, x^1)
	}
	return [][]int{p, q, s}
}

// small yields groups of which all elements can be gone through: all that one or two permutations of at most 4 points generate, and others.
func small(r *rand.Rand) iter.Seq2[int, [][]int] {
	return func(yield func(int, [][]int) bool) {
		for n := range 4 {
			all := permutations(n + 1)
			for i, a := range all {
				for _, b := range all[:i+1] {
					if !yield(n+1, [][]int{a, b}) {
						return
					}
				}
			}
		}
		for n := range 6 {
			for k := range 3 {
				if !yield(n+1, some(r, n+1, k)) {
					return
				}
			}
		}
		for range 60 {
			n := 5 + r.IntN(2)
			if !yield(n, some(r, n, 1+r.IntN(3))) {
				return
			}
		}
		for _, group := range special() {
			if !yield(len(group[0]), group) {
				return
			}
		}
	}
}

// some returns k permutations.
func some(r *rand.Rand, n, k int) [][]int {
	var list [][]int
	for range k {
		list = append(list, r.Perm(n))
	}
	return list
}

// special returns generators of groups with blocks, of groups that have them not, and of groups with several orbits.
func special() [][][]int {
	return [][][]int{
		{cycled(6, []int{0, 2}, []int{1, 3}), cycled(6, []int{2, 4}, []int{3, 5})},
		{cycled(6, []int{0, 5}), cycled(6, []int{1, 4}, []int{0, 5}), cycled(6, []int{2, 3})},
		{cycled(8, from(0, 8))},
		{cycled(8, from(0, 8)), mirrored(8)},
		{{1, 0, 3, 2, 5, 4, 7, 6}, {2, 3, 0, 1, 6, 7, 4, 5}, {4, 5, 6, 7, 0, 1, 2, 3}},
		{{1, 2, 3, 0, 5, 6, 7, 4}, {4, 7, 6, 5, 2, 1, 0, 3}},
		{{2, 3, 4, 5, 0, 1}, {1, 0, 2, 3, 4, 5}},
		{affine(7, 1, 1), affine(7, 3, 0)},
		{affine(7, 1, 1), affine(7, 2, 0)},
		moebiusOf(5),
		moebiusOf(7),
		wreath(2, 3),
		wreath(3, 2),
		wreath(2, 4),
		{cycled(9, from(0, 3), from(3, 3), from(6, 3)), cycled(9, []int{0, 3, 6}, []int{1, 4, 7}, []int{2, 5, 8})},
		{cycled(7, from(0, 3)), cycled(7, from(3, 2), from(5, 2))},
		slices.Concat(square(8, 0), square(8, 4)),
	}
}

func moebiusOf(prime int) [][]int {
	return [][]int{moebius(prime, 1, 1), moebius(prime, prime-1, 0), moebius(prime, 0, 0)}
}
