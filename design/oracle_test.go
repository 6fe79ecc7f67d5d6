package design_test

import (
	"math/big"
	"math/rand/v2"
	"reflect"
	"slices"
	"testing"

	"dauber/api"
	"dauber/design"
	"dauber/tally"
)

// The tests compare the package with an oracle that calculates by the definitions: it counts the blocks of each pair, tries all lists of classes, and all small solutions.

func newRandom() *rand.Rand {
	return rand.New(rand.NewPCG(6, 11))
}

// from returns the n numbers from first on.
func from(first, n int) []int {
	list := make([]int, n)
	for i := range list {
		list[i] = first + i
	}
	return list
}

// subsets returns all rising lists of k points, in their order.
func subsets(v, k int) [][]int {
	if k == 0 {
		return [][]int{nil}
	}
	var all [][]int
	for _, shorter := range subsets(v, k-1) {
		first := 0
		if len(shorter) > 0 {
			first = shorter[len(shorter)-1] + 1
		}
		for p := first; p < v; p++ {
			all = append(all, append(slices.Clone(shorter), p))
		}
	}
	return all
}

func hasBoth(block []int, a, b int) bool {
	return slices.Contains(block, a) && slices.Contains(block, b)
}

func count(blocks [][]int, is func(block []int) bool) int {
	n := 0
	for _, block := range blocks {
		if is(block) {
			n++
		}
	}
	return n
}

// parametersOf is the definition of a design.
func parametersOf(v int, blocks [][]int) (design.Params, bool) {
	if len(blocks) == 0 {
		return design.Params{}, false
	}
	k := len(blocks[0])
	for _, block := range blocks {
		if len(block) != k || k < 2 || k >= v {
			return design.Params{}, false
		}
		for i, p := range block {
			if p < 0 || p >= v || i > 0 && p <= block[i-1] {
				return design.Params{}, false
			}
		}
	}
	l := count(blocks, func(block []int) bool { return hasBoth(block, 0, 1) })
	for b := range v {
		for a := range b {
			if l == 0 || count(blocks, func(block []int) bool { return hasBoth(block, a, b) }) != l {
				return design.Params{}, false
			}
		}
	}
	r := count(blocks, func(block []int) bool { return slices.Contains(block, 0) })
	return design.Params{V: v, B: len(blocks), R: r, K: k, L: l}, true
}

// isResolution is the definition of a resolution, in the order in which Resolve returns it.
func isResolution(v int, blocks, classes [][]int) bool {
	var used []int
	for i, class := range classes {
		var points []int
		for j, b := range class {
			if b < 0 || b >= len(blocks) || j > 0 && b <= class[j-1] {
				return false
			}
			points = append(points, blocks[b]...)
		}
		slices.Sort(points)
		if !slices.Equal(points, from(0, v)) || i > 0 && class[0] <= classes[i-1][0] {
			return false
		}
		used = append(used, class...)
	}
	slices.Sort(used)
	return slices.Equal(used, from(0, len(blocks)))
}

// hasResolution tries all classes with the first block that is left, again and again.
func hasResolution(v int, blocks [][]int, left []int, known map[string]bool) bool {
	if len(left) == 0 {
		return true
	}
	key := keyOf(left)
	is, done := known[key]
	if done {
		return is
	}
	var extend func(class []int, covered []bool) bool
	extend = func(class []int, covered []bool) bool {
		p := slices.Index(covered, false)
		if p < 0 {
			rest := slices.DeleteFunc(slices.Clone(left), func(b int) bool { return slices.Contains(class, b) })
			return hasResolution(v, blocks, rest, known)
		}
		for _, b := range left {
			if len(class) == 0 && b != left[0] || len(class) > 0 && !slices.Contains(blocks[b], p) {
				continue
			}
			if more, fits := withBlock(covered, blocks[b]); fits && extend(append(slices.Clone(class), b), more) {
				return true
			}
		}
		return false
	}
	known[key] = extend(nil, make([]bool, v))
	return known[key]
}

// withBlock covers the points of a block, unless one of them is covered already.
func withBlock(covered []bool, block []int) ([]bool, bool) {
	more := slices.Clone(covered)
	for _, p := range block {
		if more[p] {
			return nil, false
		}
		more[p] = true
	}
	return more, true
}

func keyOf(list []int) string {
	var key []byte
	for _, x := range list {
		key = append(key, byte(x))
	}
	return string(key)
}

// isDifference is the definition of a difference set.
func isDifference(v int, d []int) (int, bool) {
	if v < 3 || v > 10000 || len(d) >= v {
		return 0, false
	}
	for i, x := range d {
		if x < 0 || x >= v || slices.Contains(d[:i], x) {
			return 0, false
		}
	}
	counts := make([]int, v)
	for _, x := range d {
		for _, y := range d {
			counts[((x-y)%v+v)%v]++
		}
	}
	if counts[1] == 0 || slices.ContainsFunc(counts[1:], func(n int) bool { return n != counts[1] }) {
		return 0, false
	}
	return counts[1], true
}

// splitOf returns the i and u with n = p^i u, u not divisible by p.
func splitOf(n, p int64) (i int, u *big.Int) {
	for n%p == 0 {
		n /= p
		i++
	}
	return i, big.NewInt(n)
}

func power(x, n int) int {
	result := 1
	for range n {
		result *= x
	}
	return result
}

// symbolOf is the definition of the symbol; the place is -1 or a prime.
func symbolOf(a, b int64, place int) int {
	if place == -1 {
		if a < 0 && b < 0 {
			return -1
		}
		return 1
	}
	i, u := splitOf(a, int64(place))
	j, w := splitOf(b, int64(place))
	if place > 2 {
		p := big.NewInt(int64(place))
		return power(-1, i*j*((place-1)/2%2)) * power(big.Jacobi(u, p), j) * power(big.Jacobi(w, p), i)
	}
	half := func(u *big.Int) int { // (u - 1) / 2, modulo 2
		return int(new(big.Int).Mod(u, big.NewInt(4)).Int64()-1) / 2
	}
	eighth := func(u *big.Int) int { // (u^2 - 1) / 8, modulo 2
		rest := int(new(big.Int).Mod(u, big.NewInt(16)).Int64())
		return (rest*rest - 1) / 8 % 2
	}
	return power(-1, half(u)*half(w)+i*eighth(w)+j*eighth(u))
}

func isPrime(n int) bool {
	return n > 0 && big.NewInt(int64(n)).ProbablyPrime(0)
}

// placesOf returns -1, 2, and the odd primes that divide a or b.
func placesOf(a, b int64) []int {
	list := []int{-1, 2}
	for _, n := range []int64{a, b} {
		for d := int64(3); d <= max(n, -n); d += 2 {
			if n%d == 0 && isPrime(int(d)) {
				list = append(list, int(d))
			}
		}
	}
	slices.Sort(list)
	return slices.Compact(list)
}

// obstacleOf returns the least place at which the symbol is -1.
func obstacleOf(a, b int64) (int, bool) {
	for _, place := range placesOf(a, b) {
		if symbolOf(a, b, place) == -1 {
			return place, true
		}
	}
	return 0, false
}

// squareFree returns n without the greatest square that divides it.
func squareFree(n int64) int64 {
	for d := int64(2); d*d <= max(n, -n); d++ {
		for n%(d*d) == 0 {
			n /= d * d
		}
	}
	return n
}

// isSolvable tries all x and y up to the roots of the coefficients without square factors: if there is a solution, there is one among them (Holzer).
func isSolvable(a, b int64) bool {
	a, b = squareFree(a), squareFree(b)
	for x := int64(0); x*x <= max(b, -b); x++ {
		for y := int64(0); y*y <= max(a, -a); y++ {
			square := a*x*x + b*y*y
			if square < 0 || x == 0 && y == 0 {
				continue
			}
			root := new(big.Int).Sqrt(big.NewInt(square)).Int64()
			if root*root == square {
				return true
			}
		}
	}
	return false
}

func toBig(x tally.Int) *big.Int {
	n, _ := new(big.Int).SetString(x.String(), 10)
	return n
}

// isSolution reports whether z^2 = a x^2 + b y^2, not all of them 0, and no number above 1 divides all of them.
func isSolution(a, b int64, x, y, z tally.Int) bool {
	left, right, third := toBig(x), toBig(y), toBig(z)
	common := new(big.Int).GCD(nil, nil, new(big.Int).Abs(left), new(big.Int).Abs(right))
	common.GCD(nil, nil, common, new(big.Int).Abs(third))
	left.Mul(left, left).Mul(left, big.NewInt(a))
	right.Mul(right, right).Mul(right, big.NewInt(b))
	third.Mul(third, third)
	return left.Add(left, right).Cmp(third) == 0 && common.Cmp(big.NewInt(1)) == 0
}

func sameRows(a, b [][]int) bool {
	return slices.EqualFunc(a, b, func(x, y []int) bool { return slices.Equal(x, y) })
}

func expectRows(t *testing.T, what string, got [][]int, e api.Errno, want [][]int) {
	t.Helper()
	if e != api.OK || !sameRows(got, want) {
		t.Errorf("%s: %v, %d; want %v", what, got, e, want)
	}
}

// expectError checks the error, and that each of the results beside it is a zero value or empty.
func expectError(t *testing.T, what string, e, want api.Errno, results ...any) {
	t.Helper()
	if e != want {
		t.Errorf("%s: error %d; want %d", what, e, want)
	}
	expectNothing(t, what, results...)
}

func expectNothing(t *testing.T, what string, results ...any) {
	t.Helper()
	for _, result := range results {
		v := reflect.ValueOf(result)
		if v.Kind() == reflect.Slice && v.Len() > 0 || v.Kind() != reflect.Slice && !v.IsZero() {
			t.Errorf("%s: %v where there is no result", what, result)
		}
	}
}
