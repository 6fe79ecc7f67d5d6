package design_test

import (
	"math/rand/v2"
	"slices"

	"dauber/design"
	"dauber/field"
)

// sample is a design with its parameters.
type sample struct {
	name       string
	v          int
	blocks     [][]int
	params     design.Params
	resolvable bool // if the oracle would take too long, or would not know it otherwise
}

// example is the plane of order 2.
func example() [][]int {
	return [][]int{{0, 1, 3}, {1, 2, 4}, {2, 3, 5}, {3, 4, 6}, {0, 4, 5}, {1, 5, 6}, {0, 2, 6}}
}

func params(v, b, r, k, l int) design.Params {
	return design.Params{V: v, B: b, R: r, K: k, L: l}
}

// samples returns designs with at most 64 points and blocks.
func samples() []sample {
	return []sample{
		{"pairs of 3", 3, subsets(3, 2), params(3, 3, 2, 2, 1), false},
		{"pairs of 4", 4, subsets(4, 2), params(4, 6, 3, 2, 1), true},
		{"pairs of 4, ten times", 4, repeated(subsets(4, 2), 10), params(4, 60, 30, 2, 10), true},
		{"pairs of 5", 5, subsets(5, 2), params(5, 10, 4, 2, 1), false},
		{"pairs of 6, four times", 6, repeated(subsets(6, 2), 4), params(6, 60, 20, 2, 4), true},
		{"pairs of 8, twice", 8, repeated(subsets(8, 2), 2), params(8, 56, 14, 2, 2), true},
		{"pairs of 10", 10, subsets(10, 2), params(10, 45, 9, 2, 1), true},
		{"pairs of 11", 11, subsets(11, 2), params(11, 55, 10, 2, 1), false},
		{"triples of 4", 4, subsets(4, 3), params(4, 4, 3, 3, 2), false},
		{"triples of 4, 16 times", 4, repeated(subsets(4, 3), 16), params(4, 64, 48, 3, 32), false},
		{"triples of 6", 6, subsets(6, 3), params(6, 20, 10, 3, 4), true},
		{"triples of 6, three times", 6, repeated(subsets(6, 3), 3), params(6, 60, 30, 3, 12), true},
		{"half of the triples of 6", 6, halfOfTriples(), params(6, 10, 5, 3, 2), false},
		{"more triples than not", 6, slices.Concat(subsets(6, 3), halfOfTriples()), params(6, 30, 15, 3, 6), false},
		{"fours of 6", 6, subsets(6, 4), params(6, 15, 10, 4, 6), false},
		{"fours of 5", 5, subsets(5, 4), params(5, 5, 4, 4, 3), false},
		sample{"all but one of 64", 64, subsets(64, 1), params(64, 64, 63, 63, 62), false}.complement(),
		{"plane of order 2", 7, example(), params(7, 7, 3, 3, 1), false},
		{"complements of its lines", 7, developed(7, 2, 4, 5, 6), params(7, 7, 4, 4, 2), false},
		{"plane of order 2, twice", 7, repeated(example(), 2), params(7, 14, 6, 3, 2), false},
		{"plane of order 3", 13, developed(13, 0, 1, 3, 9), params(13, 13, 4, 4, 1), false},
		{"plane of order 4", 21, developed(21, 3, 6, 7, 12, 14), params(21, 21, 5, 5, 1), false},
		{"affine plane of order 3", 9, affinePlane(3), params(9, 12, 4, 3, 1), true},
		{"affine plane of order 3, five times", 9, repeated(affinePlane(3), 5), params(9, 60, 20, 3, 5), true},
		{"affine plane of order 4, three times", 16, repeated(affinePlane(4), 3), params(16, 60, 15, 4, 3), true},
		{"affine plane of order 5, twice", 25, repeated(affinePlane(5), 2), params(25, 60, 12, 5, 2), true},
		{"affine plane of order 7", 49, affinePlane(7), params(49, 56, 8, 7, 1), true},
		{"lines of a space", 15, spaceLines(), params(15, 35, 7, 3, 1), true},
		{"planes of a space", 15, spacePlanes(), params(15, 15, 7, 7, 3), false},
		{"planes of an affine space", 8, affineSpacePlanes(), params(8, 14, 7, 4, 3), true},
		{"planes of an affine space, four times", 8, repeated(affineSpacePlanes(), 4), params(8, 56, 28, 4, 12), true},
		{"biplane of 11", 11, developed(11, 1, 3, 4, 5, 9), params(11, 11, 5, 5, 2), false},
		{"biplane of 16", 16, square(4), params(16, 16, 6, 6, 2), false},
		{"biplane of 37", 37, developed(37, 1, 7, 9, 10, 12, 16, 26, 33, 34), params(37, 37, 9, 9, 2), false},
		{"squares modulo 19", 19, developed(19, 1, 4, 5, 6, 7, 9, 11, 16, 17), params(19, 19, 9, 9, 4), false},
		{"squares modulo 59", 59, developed(59, squares(59)...), params(59, 59, 29, 29, 14), false},
		{"unital", 28, unital(), params(28, 63, 9, 4, 1), true},
	}
}

// complement makes the blocks those of the complement.
func (s sample) complement() sample {
	for i, block := range s.blocks {
		s.blocks[i] = slices.DeleteFunc(from(0, s.v), func(p int) bool { return slices.Contains(block, p) })
	}
	return s
}

func repeated(blocks [][]int, times int) [][]int {
	return slices.Repeat(blocks, times)
}

// developed returns the development of a list.
func developed(v int, d ...int) [][]int {
	var blocks [][]int
	for i := range v {
		var block []int
		for _, x := range d {
			block = append(block, (x+i)%v)
		}
		slices.Sort(block)
		blocks = append(blocks, block)
	}
	return blocks
}

// squares returns the squares modulo a prime, without 0.
func squares(p int) []int {
	var list []int
	for x := 1; x < p; x++ {
		list = append(list, x*x%p)
	}
	slices.Sort(list)
	return slices.Compact(list)
}

// halfOfTriples returns the design of ten triples of 6 points, no two of which have no point in common.
func halfOfTriples() [][]int {
	return [][]int{{0, 1, 2}, {0, 1, 3}, {0, 2, 4}, {0, 3, 5}, {0, 4, 5}, {1, 2, 5}, {1, 3, 4}, {1, 4, 5}, {2, 3, 4}, {2, 3, 5}}
}

// affinePlane returns the lines y = m x + c, and x = c, over the field of the order.
func affinePlane(order int) [][]int {
	f, _ := field.New(order)
	var blocks [][]int
	for m := range order + 1 {
		for c := range order {
			var block []int
			for x := range order {
				if m == order {
					block = append(block, c*order+x)
				} else {
					block = append(block, x*order+f.Add(f.Mul(m, x), c))
				}
			}
			blocks = append(blocks, block)
		}
	}
	return blocks
}

// spaceLines returns the lines of the projective space of 15 points, which are 1 to 15 written with four bits, less 1.
func spaceLines() [][]int {
	var blocks [][]int
	for b := 1; b < 16; b++ {
		for a := 1; a < b; a++ {
			if a^b > b {
				blocks = append(blocks, []int{a - 1, b - 1, a ^ b - 1})
			}
		}
	}
	return blocks
}

func spacePlanes() [][]int {
	var blocks [][]int
	for h := 1; h < 16; h++ {
		var block []int
		for p := 1; p < 16; p++ {
			if even(p & h) {
				block = append(block, p-1)
			}
		}
		blocks = append(blocks, block)
	}
	return blocks
}

// affineSpacePlanes returns the planes of the affine space of 8 points.
func affineSpacePlanes() [][]int {
	var blocks [][]int
	for h := 1; h < 8; h++ {
		for _, side := range []bool{true, false} {
			var block []int
			for p := range 8 {
				if even(p&h) == side {
					block = append(block, p)
				}
			}
			blocks = append(blocks, block)
		}
	}
	return blocks
}

// even reports whether the number of bits is even.
func even(n int) bool {
	is := true
	for ; n > 0; n /= 2 {
		is = is == (n%2 == 0)
	}
	return is
}

// square returns for each cell of a square the cells of its row and its column without it.
func square(n int) [][]int {
	var blocks [][]int
	for cell := range n * n {
		var block []int
		for other := range n * n {
			if other != cell && (other/n == cell/n || other%n == cell%n) {
				block = append(block, other)
			}
		}
		blocks = append(blocks, block)
	}
	return blocks
}

// unital returns the points of the curve x^4 + y^4 + z^4 = 0 over the field of 9 elements on each line that has four of them.
func unital() [][]int {
	f, _ := field.New(9)
	var lines, points [][]int
	for n := 1; n < 9*9*9; n++ {
		p := []int{n / 81, n / 9 % 9, n % 9}
		first := slices.IndexFunc(p, func(x int) bool { return x != 0 })
		if p[first] != 1 {
			continue
		}
		lines = append(lines, p)
		sum := 0
		for _, x := range p {
			fourth, _ := f.Pow(x, 4)
			sum = f.Add(sum, fourth)
		}
		if sum == 0 {
			points = append(points, p)
		}
	}
	var blocks [][]int
	for _, line := range lines {
		var block []int
		for i, p := range points {
			if f.Add(f.Add(f.Mul(p[0], line[0]), f.Mul(p[1], line[1])), f.Mul(p[2], line[2])) == 0 {
				block = append(block, i)
			}
		}
		if len(block) == 4 {
			blocks = append(blocks, block)
		}
	}
	return blocks
}

// mixed returns the design with other numbers for its points, and its blocks in another order.
func mixed(r *rand.Rand, v int, blocks [][]int) [][]int {
	place := r.Perm(v)
	var result [][]int
	for _, b := range r.Perm(len(blocks)) {
		var block []int
		for _, p := range blocks[b] {
			block = append(block, place[p])
		}
		slices.Sort(block)
		result = append(result, block)
	}
	return result
}

// someTriples returns a random design of triples on v points, any two of which are together in l blocks. It adds triples at random, and removes others that do not go with them (Stinson).
func someTriples(r *rand.Rand, v, l int) [][]int {
	together := make([][]int, v)
	for a := range together {
		together[a] = make([]int, v)
	}
	note := func(block []int, n int) {
		for _, a := range block {
			for _, b := range block {
				together[a][b] += n
			}
		}
	}
	var blocks [][]int
	for len(blocks) < l*v*(v-1)/6 {
		a := r.IntN(v)
		others := slices.DeleteFunc(r.Perm(v), func(b int) bool { return b == a })
		missing := slices.DeleteFunc(slices.Clone(others), func(b int) bool { return together[a][b] == l })
		if len(missing) == 1 { // a dead end, perhaps: another pair gives way
			missing = append(missing, others[0])
		}
		if len(missing) == 0 || missing[0] == missing[1] {
			continue
		}
		block := []int{a, missing[0], missing[1]}
		note(block, 1)
		for _, pair := range [][]int{block[:2], {a, block[2]}, block[1:]} {
			if together[pair[0]][pair[1]] > l {
				i := slices.IndexFunc(blocks, func(block []int) bool { return hasBoth(block, pair[0], pair[1]) })
				note(blocks[i], -1)
				blocks = slices.Delete(blocks, i, i+1)
			}
		}
		blocks = append(blocks, slices.Sorted(slices.Values(block)))
		r.Shuffle(len(blocks), func(i, k int) { blocks[i], blocks[k] = blocks[k], blocks[i] })
	}
	return blocks
}
