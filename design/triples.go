package design

import (
	"slices"

	"dauber/api"
)

const (
	minTriples = 7 // points
	maxTriples = 99
)

// Triples returns the blocks of a design with K = 3 and L = 1 on v points, or ErrNone unless v is from 7 to 99 and leaves 1 or 3 when divided by 6.
func Triples(v int) ([][]int, api.Errno) {
	if v < minTriples || v > maxTriples || v%6 != 1 && v%6 != 3 {
		return nil, api.ErrNone
	}
	return inOrder(bose(v)), api.OK
}

// bose returns the triples of Bose, if v leaves 3, or of Skolem, if it leaves 1. The points are three times the numbers from 0 to n - 1, and, if v leaves 1, one more.
func bose(v int) [][]int {
	n := v / 3
	var triples [][]int
	for a := range n {
		own := half(a+a, n)
		if own == a {
			triples = append(triples, []int{a, n + a, 2*n + a})
		}
		for third := range 3 {
			here := func(x int) int { return third*n + x }
			next := func(x int) int { return (third+1)%3*n + x }
			if own != a {
				triples = append(triples, []int{v - 1, here(a), next(own)})
			}
			for b := range a {
				triples = append(triples, []int{here(a), here(b), next(half(a+b, n))})
			}
		}
	}
	return triples
}

// half stands for half of a sum modulo n. If n is even, every other sum has no half, and gets one of the numbers that are none: different sums always have different ones.
func half(sum, n int) int {
	sum %= n
	if sum%2 == 1 {
		sum += n
	}
	return sum / 2
}

// inOrder makes each block rising, and orders the blocks as lists.
func inOrder(blocks [][]int) [][]int {
	for _, block := range blocks {
		slices.Sort(block)
	}
	slices.SortFunc(blocks, slices.Compare)
	return blocks
}
