package share_test

import (
	"fmt"
	"math"
	"slices"
	"testing"

	"dauber/api"
	"dauber/share"
)

// P8.3: Recover and Poly of any numbers of shares, at any places.
func TestRecovering(t *testing.T) {
	r := newRandom()
	for _, g := range groups() {
		most := mostHalls(g)
		for _, n := range []int{1, 2, 1 + r.IntN(most), 1 + r.IntN(min(16, most)), min(15, most), min(16, most), min(17, most), most - 1, most} {
			xs, shares := anyXs(r, g.P, n), anyNumbers(r, g.P, n)
			want := through(xs, shares, g.P)
			what := fmt.Sprint(" in ", g, " of ", shares, " at ", xs)
			secret, e := share.Recover(g, xs, shares)
			expectNumber(t, "Recover"+what, secret, e, want[0])
			poly, e := share.Poly(g, xs, shares)
			if n > 16 {
				expectError(t, "Poly"+what, e, api.ErrLong, poly)
			} else {
				expectList(t, "Poly"+what, poly, e, want)
			}
		}
	}
}

// P8.3: in small groups, all polynomials: those that have last coefficients of 0 are as long as the shares, too.
func TestPolyInSmallGroups(t *testing.T) {
	r := newRandom()
	for _, g := range smallGroups() {
		for n := 1; n <= 2 || n < int(g.P) && n <= 4; n++ {
			for poly := range lists(g.P, n) {
				if r.IntN(4) > 0 && g.P > 7 {
					continue
				}
				xs := anyXs(r, g.P, n)
				shares := valuesAt(poly, xs, g.P)
				got, e := share.Poly(g, xs, shares)
				expectList(t, fmt.Sprint("Poly in ", g, " of ", shares, " at ", xs), got, e, poly)
				secret, e := share.Recover(g, xs, shares)
				expectNumber(t, fmt.Sprint("Recover in ", g, " of ", shares, " at ", xs), secret, e, poly[0])
			}
		}
	}
}

// P8.3: the xs go from 1 to P - 1, also above 64.
func TestGreatXs(t *testing.T) {
	for _, g := range groups() {
		if g.P < 257 {
			continue
		}
		poly := []int64{g.P - 1, 5, 0, g.P - 2}
		xs := []int64{g.P - 1, 65, 64, 1, g.P - 2, 66, 2}
		shares := valuesAt(poly, xs, g.P)
		got, e := share.Poly(g, xs, shares)
		expectList(t, fmt.Sprint("Poly in ", g), got, e, append(slices.Clone(poly), 0, 0, 0))
		shares[4] = (shares[4] + 1) % g.P
		expectHealed(t, fmt.Sprint("Heal in ", g), g, 3, xs, shares, g.P-1, []int{4})
	}
}

// P8.3: in the smallest groups, Heal of all shares with all bounds, against all polynomials.
func TestHealInSmallestGroups(t *testing.T) {
	r := newRandom()
	for _, g := range smallGroups()[:5] {
		for n := 1; n < int(g.P); n++ {
			for shares := range lists(g.P, n) {
				xs := anyXs(r, g.P, n)
				for bound := range n {
					expectHeal(t, g, bound, xs, shares)
				}
			}
		}
	}
}

// expectHeal compares Heal with the definition, and reports whether there is something to heal.
func expectHeal(t *testing.T, g share.Group, bound int, xs, shares []int64) bool {
	t.Helper()
	what := fmt.Sprint("Heal in ", g, " of ", shares, " at ", xs, ", bound ", bound)
	polys := near(g.P, bound+1, healable(len(xs), bound), xs, shares)
	switch len(polys) {
	case 0:
		secret, liars, e := share.Heal(g, bound, xs, shares)
		expectError(t, what, e, api.ErrFar, secret, liars)
		return false
	case 1:
		expectHealed(t, what, g, bound, xs, shares, polys[0][0], differing(valuesAt(polys[0], xs, g.P), shares))
		return true
	}
	t.Fatalf("%s: %d polynomials", what, len(polys))
	return false
}

// P8.3: Heal of shares of which any number is wrong, against all polynomials.
func TestHealInSmallGroups(t *testing.T) {
	r := newRandom()
	healed, failed := 0, 0
	for _, g := range append(smallGroups()[5:], found(13)) {
		for range 100 {
			n := 1 + r.IntN(int(g.P)-1)
			bound := r.IntN(min(n, 3))
			xs := anyXs(r, g.P, n)
			right := valuesAt(anyNumbers(r, g.P, bound+1), xs, g.P)
			shares, _ := spoiled(r, g.P, right, r.IntN(min(n, healable(n, bound)+2)+1))
			if expectHeal(t, g, bound, xs, shares) {
				healed++
			} else {
				failed++
			}
		}
	}
	if healed < 50 || failed < 50 {
		t.Errorf("healed %d times, failed %d times", healed, failed)
	}
}

// P8.3: one more wrong share than can be healed: in a large group it is most unlikely that another polynomial is near, but if Heal finds one, it is.
func TestTooManyLiars(t *testing.T) {
	r := newRandom()
	for _, g := range []share.Group{found(4093), found(65519), below(math.MaxInt32, 65521)} {
		for _, n := range []int{1, 2, 3, 5, 16, 17, 33, 63, 64} {
			for _, bound := range []int{0, 1, 2, 7, 14, 15} {
				wrong := healable(n, bound) + 1
				if bound >= n-1 {
					continue // any shares are those of some polynomial
				}
				xs := anyXs(r, g.P, n)
				poly := anyNumbers(r, g.P, bound+1)
				shares, _ := spoiled(r, g.P, valuesAt(poly, xs, g.P), wrong)
				secret, liars, e := share.Heal(g, bound, xs, shares)
				if e == api.OK {
					expectLiars(t, g, bound, xs, shares, secret, liars)
					continue
				}
				expectError(t, fmt.Sprint("Heal in ", g, " of ", n, " shares, bound ", bound, ", wrong ", wrong), e, api.ErrFar, secret, liars)
			}
		}
	}
}

// expectLiars checks what Heal returned by the definition alone.
func expectLiars(t *testing.T, g share.Group, bound int, xs, shares []int64, secret int64, liars []int) {
	t.Helper()
	what := fmt.Sprint("Heal in ", g, " of ", shares, " at ", xs, ", bound ", bound, ": ", secret, ", ", liars)
	if len(liars) > healable(len(xs), bound) {
		t.Fatalf("%s: too many", what)
	}
	var honestXs, honest []int64
	for i, x := range xs {
		if !slices.Contains(liars, i) {
			honestXs, honest = append(honestXs, x), append(honest, shares[i])
		}
	}
	poly := through(honestXs[:bound+1], honest[:bound+1], g.P)
	if poly[0] != secret || !slices.Equal(differing(valuesAt(poly, xs, g.P), shares), liars) {
		t.Errorf("%s: the polynomial is %v", what, poly)
	}
}

// P8.3: wrong shares that make another polynomial's, which is then the one that is found; or none, if both are as near.
func TestLiarsThatAgree(t *testing.T) {
	r := newRandom()
	for _, g := range []share.Group{found(67), found(257), largestGroup(), found(65521)} {
		for _, n := range []int{3, 4, 10, 16, 31, 64} {
			for bound := range min(n-1, 16) {
				xs := anyXs(r, g.P, n)
				a := anyNumbers(r, g.P, bound+1)
				b := slices.Clone(a)
				// The two polynomials are the same at the first bound places.
				for i, c := range vanishing(g.P, xs[:bound]) {
					b[i] = (b[i] + c) % g.P
				}
				ofA, ofB := valuesAt(a, xs, g.P), valuesAt(b, xs, g.P)
				for _, split := range []int{bound, bound + 1, n - healable(n, bound) - 1, n - healable(n, bound), n - 1, bound + healable(n, bound), n - bound, n} {
					if split < bound || split > n {
						continue
					}
					shares := append(slices.Clone(ofA[:split]), ofB[split:]...)
					what := fmt.Sprint("Heal in ", g, " of ", shares, " at ", xs, ", bound ", bound)
					switch {
					case n-split <= healable(n, bound):
						expectHealed(t, what, g, bound, xs, shares, a[0], differing(ofA, shares))
					case split-bound <= healable(n, bound):
						expectHealed(t, what, g, bound, xs, shares, b[0], differing(ofB, shares))
					default:
						secret, liars, e := share.Heal(g, bound, xs, shares)
						if e == api.OK {
							expectLiars(t, g, bound, xs, shares, secret, liars)
						} else {
							expectError(t, what, e, api.ErrFar, secret, liars)
						}
					}
				}
			}
		}
	}
}

// vanishing returns the polynomial that is 0 at the xs, with the last coefficient 1.
func vanishing(p int64, xs []int64) []int64 {
	poly := []int64{1}
	for _, x := range xs {
		next := make([]int64, len(poly)+1)
		for i, c := range poly {
			next[i] = times(p, next[i]+p-times(p, c, x), 1)
			next[i+1] = (next[i+1] + c) % p
		}
		poly = next
	}
	return poly
}

// P8.3: bounds from 0 to 15, less than the number of shares.
func TestBounds(t *testing.T) {
	for _, g := range groups() {
		for _, n := range []int{1, 2, 3, 15, 16, 17, 64} {
			if n > mostHalls(g) {
				continue
			}
			xs, shares := from(1, n), slices.Repeat([]int64{2}, n)
			for _, bound := range []int{math.MinInt, -1, 0, 1, 14, 15, 16, n - 1, n, n + 1, 63, 1 << 32, math.MaxInt} {
				what := fmt.Sprint("Heal in ", g, " of ", n, " shares, bound ", bound)
				if bound >= 0 && bound <= 15 && bound < n {
					expectHealed(t, what, g, bound, xs, shares, 2, nil)
				} else {
					secret, liars, e := share.Heal(g, bound, xs, shares)
					expectError(t, what, e, api.ErrArg, secret, liars)
				}
			}
		}
	}
}

// expectRefused expects the same error of Recover, Poly and Heal, of Heal whatever the bound is.
func expectRefused(t *testing.T, g share.Group, xs, shares []int64, want api.Errno) {
	t.Helper()
	what := fmt.Sprint(" in ", g, " of ", len(shares), " shares at ", len(xs), " places")
	if len(xs) < 70 {
		what = fmt.Sprint(" in ", g, " of ", shares, " at ", xs)
	}
	secret, e := share.Recover(g, xs, shares)
	expectError(t, "Recover"+what, e, want, secret)
	poly, e := share.Poly(g, xs, shares)
	expectError(t, "Poly"+what, e, want, poly)
	for _, bound := range []int{0, -1, 16, len(xs)} {
		secret, liars, e := share.Heal(g, bound, xs, shares)
		expectError(t, "Heal"+what, e, want, secret, liars)
	}
}

// P8.3: lists of different lengths, which comes first of all, and of too few or too many shares, which comes next.
func TestNumbersOfShares(t *testing.T) {
	for _, g := range groups() {
		for _, n := range []int{0, 1, 2, 16, 17, 63, 64, 65, 66, 1000} {
			for _, m := range []int{0, 1, 2, 16, 17, 63, 64, 65, 66, 1000} {
				wrong := slices.Repeat([]int64{-1}, m)
				switch {
				case n != m:
					expectRefused(t, g, from(1, n), make([]int64, m), api.ErrShape)
					expectRefused(t, g, make([]int64, n), wrong, api.ErrShape)
				case n == 0 || n > 64:
					expectRefused(t, g, from(1, n), make([]int64, m), api.ErrLong)
					expectRefused(t, g, make([]int64, n), wrong, api.ErrLong)
				}
			}
		}
		expectRefused(t, g, nil, nil, api.ErrLong)
		expectRefused(t, g, make([]int64, 1<<20), make([]int64, 1<<20), api.ErrLong)
	}
}

// P8.3: xs that are not from 1 to P - 1, and shares that are not from 0 to P - 1, of any number of shares; they come before xs that are the same.
func TestBadShares(t *testing.T) {
	for _, g := range groups() {
		for _, n := range []int{1, 2, 16, 17, 64} {
			if n > mostHalls(g) {
				continue
			}
			for _, at := range []int{0, n / 2, n - 1} {
				for _, wrong := range []int64{-1, g.P, g.P + 1, -g.P, 1 - g.P, g.R, 1 << 32, 1 + 1<<62, math.MaxInt64, math.MinInt64} {
					xs, shares := from(1, n), make([]int64, n)
					shares[at] = wrong
					expectRefused(t, g, xs, shares, api.ErrArg)
					xs[0] = xs[n-1]
					expectRefused(t, g, xs, shares, api.ErrArg)
					xs, shares = from(1, n), make([]int64, n)
					xs[at] = wrong
					expectRefused(t, g, xs, shares, api.ErrArg)
				}
				xs, shares := from(1, n), make([]int64, n)
				xs[at] = 0
				expectRefused(t, g, xs, shares, api.ErrArg)
			}
		}
		zeros := []int64{0, 0}
		expectRefused(t, g, zeros, zeros, api.ErrArg)
	}
}

// P8.3: the same x twice, with the same share or another one, at any two places; it comes before what Poly says of too many shares and Heal of the bound.
func TestSameXs(t *testing.T) {
	r := newRandom()
	for _, g := range groups() {
		for _, n := range []int{2, 3, 16, 17, 64} {
			if n > mostHalls(g) {
				continue
			}
			for range 10 {
				xs, shares := anyXs(r, g.P, n), anyNumbers(r, g.P, n)
				places := r.Perm(n)
				xs[places[0]] = xs[places[1]]
				expectRefused(t, g, xs, shares, api.ErrSame)
				shares[places[0]] = shares[places[1]]
				expectRefused(t, g, xs, shares, api.ErrSame)
			}
		}
	}
	expectRefused(t, found(11), []int64{1, 2, 3, 1}, []int64{1, 2, 3, 4}, api.ErrSame)
	expectRefused(t, found(3), slices.Repeat([]int64{1, 2}, 32), make([]int64, 64), api.ErrSame)
}

// P8.3: as many as 64 shares, of which Poly takes only 16.
func TestManyShares(t *testing.T) {
	g := found(65521)
	xs := from(65521-64, 64)
	shares := make([]int64, 64)
	for i := range shares {
		shares[i] = int64(i * i * 15)
	}
	secret, e := share.Recover(g, xs, shares)
	expectNumber(t, "Recover of 64 shares", secret, e, through(xs, shares, g.P)[0])
	poly, e := share.Poly(g, xs[:17], shares[:17])
	expectError(t, "Poly of 17 shares", e, api.ErrLong, poly)
	poly, e = share.Poly(g, xs[:16], shares[:16])
	expectList(t, "Poly of 16 shares", poly, e, through(xs[:16], shares[:16], g.P))
	expectHealed(t, "Heal of 64 shares", g, 2, xs, shares, through(xs[:3], shares[:3], g.P)[0], nil)
}
