package perm_test

import (
	"fmt"
	"math"
	"slices"
	"testing"

	"dauber/api"
	"dauber/perm"
)

// P4.1: Check of permutations of 1 to api.MaxPoints points, and of lists that are none.
func TestCheck(t *testing.T) {
	r := newRandom()
	for n := 1; n <= 20; n++ {
		for _, p := range [][]int{identity(n), mirrored(n), r.Perm(n)} {
			if e := perm.Check(p); e != api.OK {
				t.Errorf("Check(%v): %d", p, e)
			}
			for i := range p {
				for _, x := range []int{p[i] - 1, p[i] + 1, -1, n, p[i] + 256, math.MinInt, math.MaxInt} {
					q := slices.Clone(p)
					q[i] = x
					expectError(t, fmt.Sprint("Check", q), perm.Check(q), api.ErrPerm)
				}
			}
		}
	}
	for _, p := range notPermutations() {
		expectError(t, "Check", perm.Check(p), api.ErrPerm)
	}
}

// P4.1: Product, Inverse, Power, Cycles and Sign of all permutations of few points.
func TestFewPoints(t *testing.T) {
	for n := 1; n <= 4; n++ {
		for _, a := range permutations(n) {
			for _, b := range permutations(n) {
				p, e := perm.Product(a, b)
				expectList(t, fmt.Sprint("Product", a, b), p, e, product(a, b))
			}
		}
	}
	for n := 1; n <= 6; n++ {
		for _, a := range permutations(n) {
			expectAlone(t, a)
		}
	}
}

// expectAlone compares what the package makes of one permutation with the definitions.
func expectAlone(t *testing.T, a []int) {
	t.Helper()
	p, e := perm.Inverse(a)
	expectList(t, fmt.Sprint("Inverse", a), p, e, inverse(a))
	expectPowers(t, a)
	cycles, e := perm.Cycles(a)
	expectRows(t, fmt.Sprint("Cycles", a), cycles, e, cyclesOf(a))
	sign, e := perm.Sign(a)
	expectNumber(t, fmt.Sprint("Sign", a), int64(sign), e, signOf(a))
}

func expectPowers(t *testing.T, a []int) {
	t.Helper()
	up, down := identity(len(a)), identity(len(a))
	for n := range int64(14) {
		p, e := perm.Power(a, n)
		expectList(t, fmt.Sprint("Power", a, n), p, e, up)
		p, e = perm.Power(a, -n)
		expectList(t, fmt.Sprint("Power", a, -n), p, e, down)
		up, down = product(up, a), product(down, inverse(a))
	}
	for _, n := range []int64{math.MaxInt64, math.MinInt64, math.MaxInt64 - 1, math.MinInt64 + 1, 1 << 40, -1 << 40} {
		p, e := perm.Power(a, n)
		expectList(t, fmt.Sprint("Power", a, n), p, e, powered(a, n))
	}
}

// powered goes from each point as many steps as are left when whole rounds are left out.
func powered(a []int, n int64) []int {
	p := identity(len(a))
	for i := range p {
		length := int64(len(orbitUnder([][]int{a}, i)))
		for range (n%length + length) % length {
			p[i] = a[p[i]]
		}
	}
	return p
}

func cyclesOf(a []int) [][]int {
	var cycles [][]int
	for i := range a {
		if orbitUnder([][]int{a}, i)[0] < i {
			continue
		}
		cycle := []int{i}
		for x := a[i]; x != i; x = a[x] {
			cycle = append(cycle, x)
		}
		cycles = append(cycles, cycle)
	}
	return cycles
}

// signOf counts the pairs of which the order is changed.
func signOf(a []int) int64 {
	sign := int64(1)
	for i := range a {
		for j := range i {
			if a[j] > a[i] {
				sign = -sign
			}
		}
	}
	return sign
}

// P4.1: the same of many points; products and powers of them agree.
func TestManyPoints(t *testing.T) {
	r := newRandom()
	for n := 1; n <= 20; n++ {
		for range 20 {
			a, b := r.Perm(n), r.Perm(n)
			expectAlone(t, a)
			p, e := perm.Product(a, b)
			expectList(t, fmt.Sprint("Product", a, b), p, e, product(a, b))
			signA, _ := perm.Sign(a)
			signB, _ := perm.Sign(b)
			sign, e := perm.Sign(p)
			expectNumber(t, "Sign of a product", int64(sign), e, int64(signA*signB))
		}
		expectAlone(t, identity(n))
		expectAlone(t, cycled(n, from(0, n)))
	}
	cycles, e := perm.Cycles([]int{0, 4, 5, 3, 1, 2})
	expectRows(t, "Cycles", cycles, e, [][]int{{0}, {1, 4}, {2, 5}, {3}})
	cycles, e = perm.Cycles([]int{0})
	expectRows(t, "Cycles of one point", cycles, e, [][]int{{0}})
}

// P4.1: lists that are no permutations come before permutations of different lengths.
func TestPermutationErrors(t *testing.T) {
	for _, p := range notPermutations() {
		what := fmt.Sprintf("%.30s", fmt.Sprint(p[:min(5, len(p))]))
		for _, good := range [][]int{{0}, {1, 0}, identity(3), identity(20)} {
			q, e := perm.Product(p, good)
			expectError(t, "Product "+what, e, api.ErrPerm, q)
			q, e = perm.Product(good, p)
			expectError(t, "Product "+what, e, api.ErrPerm, q)
		}
		q, e := perm.Product(p, p)
		expectError(t, "Product "+what, e, api.ErrPerm, q)
		q, e = perm.Inverse(p)
		expectError(t, "Inverse "+what, e, api.ErrPerm, q)
		for _, n := range []int64{0, 1, -1, math.MinInt64, math.MaxInt64} {
			q, e = perm.Power(p, n)
			expectError(t, "Power "+what, e, api.ErrPerm, q)
		}
		cycles, e := perm.Cycles(p)
		expectError(t, "Cycles "+what, e, api.ErrPerm, cycles)
		sign, e := perm.Sign(p)
		expectError(t, "Sign "+what, e, api.ErrPerm, sign)
		rank, e := perm.Rank(p)
		expectError(t, "Rank "+what, e, api.ErrPerm, rank)
		q, e = perm.Draws(p)
		expectError(t, "Draws "+what, e, api.ErrPerm, q)
	}
	for n := 1; n <= 20; n++ {
		for m := 1; m <= 20; m++ {
			p, e := perm.Product(identity(n), identity(m))
			if n == m {
				expectList(t, "Product", p, e, identity(n))
			} else {
				expectError(t, "Product", e, api.ErrShape, p)
			}
		}
	}
}
