package share_test

import (
	"fmt"
	"math"
	"testing"

	"dauber/api"
	"dauber/share"
)

// P8.1: all small numbers, against the definition.
func TestSmallGroups(t *testing.T) {
	count := 0
	for r := int64(-2); r < 72; r++ {
		for p := int64(-2); p < 40; p++ {
			for x := int64(-2); x < 75; x++ {
				g := share.Group{R: r, P: p, G: x}
				want := api.ErrGroup
				if isGroup(g) {
					want = api.OK
					count++
				}
				if e := share.Check(g); e != want {
					t.Errorf("Check of %v: %d; want %d", g, e, want)
				}
			}
		}
	}
	if count != 136 {
		t.Errorf("%d groups", count)
	}
}

// P8.1: groups of all sizes.
func TestGroups(t *testing.T) {
	for _, g := range groups() {
		if !isGroup(g) {
			t.Fatalf("a sample is no group: %v", g)
		}
		expectError(t, fmt.Sprint("Check of ", g), share.Check(g), api.OK)
	}
	if g := largestGroup(); g.R != math.MaxInt32 {
		t.Errorf("the largest group is %v", g)
	}
}

// P8.1: numbers that are no group: all calls say so first, whatever else they are given.
func TestBadGroups(t *testing.T) {
	for name, g := range badGroups() {
		if isGroup(g) {
			t.Fatalf("a group: %s, %v", name, g)
		}
		expectError(t, "Check, "+name, share.Check(g), api.ErrGroup)
		for _, x := range []arguments{ordinary(), {}, longArguments(), wrongArguments()} {
			x.g = g
			for _, results := range everyCall(x) {
				last := len(results) - 1
				if is, ok := results[last].(bool); ok {
					expectBool(t, name, is, false)
					continue
				}
				expectError(t, name, results[last].(api.Errno), api.ErrGroup, results[:last]...)
			}
		}
	}
}

// P8.1: numbers R that are no primes, with all else of a group.
func TestCompositeGroups(t *testing.T) {
	for _, r := range composites() {
		g := composite(r)
		if isPrime(r) || !isPrime(g.P) || (r-1)%g.P != 0 || g.G < 2 || g.G >= r || raised(g.G, g.P, r) != 1 {
			t.Errorf("not what the test needs: %v", g)
		}
		expectError(t, fmt.Sprint("Check of ", g), share.Check(g), api.ErrGroup)
	}
}

// findSlowly is the definition, of a prime p.
func findSlowly(p int64) share.Group {
	r := p + 1
	for !isPrime(r) {
		r += p
	}
	return withPower(r, p, 2, 1)
}

// P8.1: Find of all primes that there are, and of all other numbers around.
func TestFind(t *testing.T) {
	count := 0
	for p := int64(-100); p < 66000; p++ {
		g, e := share.Find(p)
		if p < 3 || p > 65521 || !isPrime(p) {
			expectError(t, fmt.Sprint("Find of ", p), e, api.ErrArg, g)
			continue
		}
		count++
		if want := findSlowly(p); g != want || e != api.OK || share.Check(g) != api.OK {
			t.Errorf("Find of %d: %v, %d; want %v", p, g, e, want)
		}
	}
	if count != 6541 {
		t.Errorf("%d groups", count)
	}
}

// P8.1: some groups by hand, and primes of which there is none, also those that are small in 16 or 32 bits.
func TestFindOfKnownNumbers(t *testing.T) {
	for p, want := range map[int64]share.Group{3: {R: 7, P: 3, G: 4}, 5: {R: 11, P: 5, G: 4}, 7: {R: 29, P: 7, G: 16}, 11: {R: 23, P: 11, G: 4}, 13: {R: 53, P: 13, G: 16}} {
		if g, e := share.Find(p); g != want || e != api.OK {
			t.Errorf("Find of %d: %v, %d; want %v", p, g, e, want)
		}
	}
	for _, p := range []int64{math.MinInt64, -11, -3, -2, -1, 0, 1, 2, 4, 9, 65520, 65522, 65537, 65539, 11 + 1<<16, 1000003, math.MaxInt32, 11 + 1<<32, 11 + 1<<62, math.MaxInt64} {
		g, e := share.Find(p)
		expectError(t, fmt.Sprint("Find of ", p), e, api.ErrArg, g)
	}
}

// P8.1: all powers of groups of up to 65521 elements.
func TestPower(t *testing.T) {
	r := newRandom()
	for _, g := range groups() {
		all := elements(g)
		places := anyNumbers(r, g.P, 50)
		if g.P < 1000 {
			places = from(0, int(g.P))
		}
		for _, n := range append(places, 0, 1, g.P-1) {
			x, e := g.Power(n)
			expectNumber(t, fmt.Sprint("Power of ", g, ", ", n), x, e, all[n])
		}
		for _, n := range []int64{math.MinInt64, -g.P, -1, g.P, g.P + 1, g.R - 1, g.R, 1 << 32, 1 << 62, math.MaxInt64} {
			x, e := g.Power(n)
			expectError(t, fmt.Sprint("Power of ", g, ", ", n), e, api.ErrArg, x)
		}
	}
}

// P8.1: all numbers from below 0 to above R, also those that leave an element when divided by R.
func TestHas(t *testing.T) {
	for _, g := range smallGroups() {
		is := map[int64]bool{}
		for _, x := range elements(g) {
			is[x] = true
		}
		if len(is) != int(g.P) {
			t.Fatalf("%v has %d elements", g, len(is))
		}
		for x := -3 * g.R; x < 4*g.R; x++ {
			expectBool(t, fmt.Sprint("Has of ", g, ", ", x), g.Has(x), is[x])
		}
	}
}

// P8.1: elements of large groups, and numbers beside them.
func TestHasOfLargeGroups(t *testing.T) {
	r := newRandom()
	for _, g := range groups() {
		is := map[int64]bool{}
		for _, x := range elements(g) {
			is[x] = true
		}
		for _, n := range anyNumbers(r, g.P, 20) {
			x := raised(g.G, n, g.R)
			expectBool(t, fmt.Sprint("Has of ", g, ", ", x), g.Has(x), true)
			for _, y := range []int64{x - 1, x + 1, g.R - x, r.Int64N(g.R)} {
				expectBool(t, fmt.Sprint("Has of ", g, ", ", y), g.Has(y), is[y])
			}
			for _, y := range []int64{-x, x - g.R, x + g.R, x + g.R<<20, x - g.R<<31, x + g.R*(1<<62/g.R)} {
				expectBool(t, fmt.Sprint("Has of ", g, ", ", y), g.Has(y), false)
			}
		}
		for _, x := range []int64{math.MinInt64, -1, 0, g.R - 1, g.R, g.R + 1, math.MaxInt64} {
			expectBool(t, fmt.Sprint("Has of ", g, ", ", x), g.Has(x), is[x])
		}
		expectBool(t, fmt.Sprint("Has of ", g, ", 1"), g.Has(1), true)
	}
}
