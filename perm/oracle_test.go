package perm_test

import (
	"math"
	"math/big"
	"math/rand/v2"
	"reflect"
	"slices"
	"testing"

	"dauber/api"
	"dauber/perm"
	"dauber/tally"
)

// The tests compare the package with an oracle that calculates by the definitions: it goes through all elements of a group.

func newRandom() *rand.Rand {
	return rand.New(rand.NewPCG(4, 12))
}

func identity(n int) []int {
	p := make([]int, n)
	for i := range p {
		p[i] = i
	}
	return p
}

// product goes first by a, then by b, and so on.
func product(a []int, others ...[]int) []int {
	p := slices.Clone(a)
	for _, b := range others {
		for i := range p {
			p[i] = b[p[i]]
		}
	}
	return p
}

func inverse(a []int) []int {
	p := make([]int, len(a))
	for i, x := range a {
		p[x] = i
	}
	return p
}

// commutator is a^-1 b^-1 a b.
func commutator(a, b []int) []int {
	return product(inverse(a), inverse(b), a, b)
}

// swapped returns the permutation of n points that exchanges two of them.
func swapped(n, a, b int) []int {
	p := identity(n)
	p[a], p[b] = p[b], p[a]
	return p
}

// cycled returns the permutation of n points that has these cycles.
func cycled(n int, cycles ...[]int) []int {
	p := identity(n)
	for _, cycle := range cycles {
		for i, x := range cycle {
			p[x] = cycle[(i+1)%len(cycle)]
		}
	}
	return p
}

// from returns the n numbers from first on.
func from(first, n int) []int {
	list := identity(n)
	for i := range list {
		list[i] += first
	}
	return list
}

func isPermutation(p []int) bool {
	sorted := slices.Sorted(slices.Values(p))
	return len(p) >= 1 && len(p) <= 20 && slices.Equal(sorted, identity(len(p)))
}

// permutations returns all permutations of n points in their order.
func permutations(n int) [][]int {
	if n == 0 {
		return [][]int{nil}
	}
	var all [][]int
	for _, shorter := range permutations(n - 1) {
		for last := range n {
			p := []int{last}
			for _, x := range shorter {
				if x >= last {
					x++
				}
				p = append(p, x)
			}
			all = append(all, p)
		}
	}
	slices.SortFunc(all, slices.Compare)
	return all
}

func key(list []int) string {
	var k []byte
	for _, x := range list {
		k = append(k, byte(x))
	}
	return string(k)
}

// elementsOf returns all products of the generators in their order; they are few enough, so that inverses are among them.
func elementsOf(n int, generators [][]int) [][]int {
	all := [][]int{identity(n)}
	known := map[string]bool{key(all[0]): true}
	for i := 0; i < len(all); i++ {
		for _, p := range generators {
			q := product(all[i], p)
			if !known[key(q)] {
				known[key(q)] = true
				all = append(all, q)
			}
		}
	}
	slices.SortFunc(all, slices.Compare)
	return all
}

func has(elements [][]int, p []int) bool {
	_, is := slices.BinarySearchFunc(elements, p, slices.Compare)
	return is
}

// leaving returns those of the permutations that leave all points before the limit where they are.
func leaving(all [][]int, limit int) [][]int {
	var left [][]int
	for _, p := range all {
		if slices.Equal(p[:limit], identity(limit)) {
			left = append(left, p)
		}
	}
	return left
}

// orbitUnder returns where products of the permutations bring a point, rising.
func orbitUnder(generators [][]int, point int) []int {
	orbit := []int{point}
	for i := 0; i < len(orbit); i++ {
		for _, p := range generators {
			if x := p[orbit[i]]; !slices.Contains(orbit, x) {
				orbit = append(orbit, x)
			}
		}
	}
	slices.Sort(orbit)
	return orbit
}

func orderOf(p []int) int64 {
	order := int64(1)
	for q := p; !slices.Equal(q, identity(len(p))); q = product(q, p) {
		order++
	}
	return order
}

// bring returns the pattern to which a permutation brings a pattern.
func bring(p, pattern []int) []int {
	brought := make([]int, len(p))
	for i, x := range p {
		brought[x] = pattern[i]
	}
	return brought
}

func factorial(n int) int64 {
	f := int64(1)
	for i := range n {
		f *= int64(i + 1)
	}
	return f
}

func powerOf(a, n int) *big.Int {
	return new(big.Int).Exp(big.NewInt(int64(a)), big.NewInt(int64(n)), nil)
}

func toBig(n tally.Int) *big.Int {
	result, _ := new(big.Int).SetString(n.String(), 10)
	return result
}

func newGroup(t *testing.T, n int, generators ...[]int) *perm.Group {
	t.Helper()
	g, e := perm.New(n, generators)
	if e != api.OK || g == nil {
		t.Fatalf("New(%d, %v): %d", n, generators, e)
	}
	return g
}

// notPermutations are lists that are no permutations.
func notPermutations() [][]int {
	return [][]int{
		nil, {}, {1}, {-1}, {0, 0}, {1, 1}, {0, 2}, {1, 2}, {-1, 0}, {0, 1, 1}, {0, 1, 3}, {2, 1, 2}, {0, 1, -1}, {1, 2, 3},
		{math.MaxInt, 0}, {0, math.MinInt}, {256, 1}, {0, 257}, {-256, 1},
		identity(21), from(1, 20), from(-1, 20), make([]int, 20), make([]int, 1<<20), identity(1 << 16),
		append(identity(19), 20), append(identity(19), 18),
	}
}

func sameRows(a, b [][]int) bool {
	return slices.EqualFunc(a, b, func(x, y []int) bool { return slices.Equal(x, y) })
}

func expectList(t *testing.T, what string, got []int, e api.Errno, want []int) {
	t.Helper()
	if e != api.OK || !slices.Equal(got, want) {
		t.Errorf("%s: %v, %d; want %v", what, got, e, want)
	}
}

func expectRows(t *testing.T, what string, got [][]int, e api.Errno, want [][]int) {
	t.Helper()
	if e != api.OK || !sameRows(got, want) {
		t.Errorf("%s: %v, %d; want %v", what, got, e, want)
	}
}

func expectNumber(t *testing.T, what string, got int64, e api.Errno, want int64) {
	t.Helper()
	if e != api.OK || got != want {
		t.Errorf("%s: %d, %d; want %d", what, got, e, want)
	}
}

// expectError checks the error, and that each of the results beside it is a zero value or empty.
func expectError(t *testing.T, what string, e, want api.Errno, results ...any) {
	t.Helper()
	if e != want {
		t.Errorf("%s: error %d; want %d", what, e, want)
	}
	for _, result := range results {
		v := reflect.ValueOf(result)
		if v.Kind() == reflect.Slice && v.Len() > 0 || v.Kind() != reflect.Slice && !v.IsZero() {
			t.Errorf("%s: %v beside the error %d", what, result, e)
		}
	}
}
