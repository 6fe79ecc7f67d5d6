package perm_test

import (
	"fmt"
	"math"
	"slices"
	"testing"

	"dauber/api"
	"dauber/perm"
)

// P4.2, P4.11: all permutations of few points have their places among all as their ranks.
func TestRanks(t *testing.T) {
	for n := 1; n <= 6; n++ {
		all := permutations(n)
		for i, want := range all {
			rank, e := perm.Rank(want)
			expectNumber(t, fmt.Sprint("Rank", want), rank, e, int64(i))
			p, e := perm.Unrank(n, int64(i))
			expectList(t, fmt.Sprint("Unrank ", n, i), p, e, want)
		}
	}
	rank, e := perm.Rank([]int{2, 0, 1})
	expectNumber(t, "Rank", rank, e, 4)
}

// P4.2, P4.11: ranks of many points: the first, the last, and those between, which rise with the lists.
func TestLargeRanks(t *testing.T) {
	r := newRandom()
	for n := 1; n <= 20; n++ {
		count := factorial(n)
		rank, e := perm.Rank(identity(n))
		expectNumber(t, "Rank of the first one", rank, e, 0)
		rank, e = perm.Rank(mirrored(n))
		expectNumber(t, "Rank of the last one", rank, e, count-1)
		for range 50 {
			k := r.Int64N(count)
			p, e := perm.Unrank(n, k)
			if e != api.OK || len(p) != n || !isPermutation(p) {
				t.Fatalf("Unrank(%d, %d): %v, %d", n, k, p, e)
			}
			rank, e := perm.Rank(p)
			expectNumber(t, fmt.Sprint("Rank", p), rank, e, k)
			next, e := perm.Unrank(n, k+1)
			if k+1 < count && (e != api.OK || slices.Compare(p, next) >= 0) {
				t.Errorf("Unrank(%d, %d): %v, %d after %v", n, k+1, next, e, p)
			}
			q := r.Perm(n)
			rank, e = perm.Rank(q)
			other, _ := perm.Unrank(n, rank)
			expectList(t, "Unrank of Rank", other, e, q)
		}
	}
}

// P4.2: numbers of points and ranks that are not in range; the number of points comes first.
func TestUnrankErrors(t *testing.T) {
	for _, n := range []int{0, -1, 21, 22, math.MinInt, math.MaxInt, 1 << 32} {
		for _, rank := range []int64{0, -1, 1, math.MinInt64, math.MaxInt64} {
			p, e := perm.Unrank(n, rank)
			expectError(t, fmt.Sprint("Unrank ", n), e, api.ErrPerm, p)
		}
	}
	for n := 1; n <= 20; n++ {
		for _, rank := range []int64{-1, factorial(n), factorial(n) + 1, math.MinInt64, math.MinInt64 + 1, math.MaxInt64, -factorial(n)} {
			p, e := perm.Unrank(n, rank)
			expectError(t, fmt.Sprint("Unrank ", n, rank), e, api.ErrArg, p)
		}
	}
}

// drawLists returns all lists of n draws that are in range.
func drawLists(n int) [][]int {
	if n == 0 {
		return [][]int{nil}
	}
	var all [][]int
	for _, shorter := range drawLists(n - 1) {
		for draw := range n {
			all = append(all, append(slices.Clone(shorter), draw))
		}
	}
	return all
}

// shuffled does what the definition says.
func shuffled(draws []int) []int {
	list := identity(len(draws))
	for i := len(draws) - 1; i >= 0; i-- {
		list = product(swapped(len(draws), i, draws[i]), list)
	}
	return list
}

// P4.2, P4.11: all lists of few draws make all permutations, each once.
func TestShuffle(t *testing.T) {
	for n := 1; n <= 6; n++ {
		seen := map[string]bool{}
		for _, draws := range drawLists(n) {
			p, e := perm.Shuffle(draws)
			expectList(t, fmt.Sprint("Shuffle", draws), p, e, shuffled(draws))
			back, e := perm.Draws(p)
			expectList(t, fmt.Sprint("Draws", p), back, e, draws)
			seen[key(p)] = true
		}
		if int64(len(seen)) != factorial(n) {
			t.Errorf("%d of %d points", len(seen), n)
		}
	}
	p, e := perm.Shuffle([]int{0, 0, 0})
	expectList(t, "Shuffle", p, e, []int{1, 2, 0})
}

// P4.2, P4.11: many draws.
func TestLongShuffle(t *testing.T) {
	r := newRandom()
	for n := 1; n <= 20; n++ {
		for range 50 {
			draws := make([]int, n)
			for i := range draws {
				draws[i] = r.IntN(i + 1)
			}
			p, e := perm.Shuffle(draws)
			expectList(t, fmt.Sprint("Shuffle", draws), p, e, shuffled(draws))
			back, e := perm.Draws(p)
			expectList(t, fmt.Sprint("Draws", p), back, e, draws)
			q := r.Perm(n)
			back, e = perm.Draws(q)
			p, _ = perm.Shuffle(back)
			expectList(t, "Shuffle of Draws", p, e, q)
		}
		p, e := perm.Shuffle(identity(n))
		expectList(t, "Shuffle that exchanges nothing", p, e, identity(n))
	}
}

// P4.2: draws that are too many, none, or not in range; their number comes first.
func TestShuffleErrors(t *testing.T) {
	for _, draws := range [][]int{nil, {}, make([]int, 21), append(make([]int, 20), -1), slices.Repeat([]int{-1}, 21), make([]int, 1<<20), identity(21)} {
		p, e := perm.Shuffle(draws)
		expectError(t, fmt.Sprint("Shuffle of ", len(draws)), e, api.ErrPerm, p)
	}
	for n := 1; n <= 20; n++ {
		for i := range n {
			for _, draw := range []int{-1, i + 1, n + 7, math.MinInt, math.MaxInt} {
				draws := make([]int, n)
				draws[i] = draw
				p, e := perm.Shuffle(draws)
				expectError(t, fmt.Sprint("Shuffle", draws), e, api.ErrArg, p)
			}
		}
	}
}
