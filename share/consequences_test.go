package share_test

import (
	"fmt"
	"math"
	"math/rand/v2"
	"slices"
	"testing"

	"dauber/api"
	"dauber/share"
)

// some returns n of the halls, in any order, with their shares.
func some(r *rand.Rand, shares []int64, n int) (xs, ofThem []int64) {
	for _, i := range r.Perm(len(shares))[:n] {
		xs, ofThem = append(xs, int64(i+1)), append(ofThem, shares[i])
	}
	return xs, ofThem
}

// P8.5: any t + 1 shares recover the secret, and more do; every share fits, no other number does.
func TestAnySharesRecover(t *testing.T) {
	r := newRandom()
	for _, g := range groups() {
		for range 20 {
			poly := anyNumbers(r, g.P, 1+r.IntN(min(16, mostHalls(g))))
			halls := len(poly) + r.IntN(mostHalls(g)-len(poly)+1)
			shares, _ := share.Shares(g, poly, halls)
			commitments, _ := share.Commit(g, poly)
			what := fmt.Sprint(g, ", ", poly)
			for range 5 {
				xs, ofThem := some(r, shares, len(poly))
				secret, e := share.Recover(g, xs, ofThem)
				expectNumber(t, "Recover, "+what, secret, e, poly[0])
				got, e := share.Poly(g, xs, ofThem)
				expectList(t, "Poly, "+what, got, e, poly)
				xs, ofThem = some(r, shares, len(poly)+r.IntN(halls-len(poly)+1))
				secret, e = share.Recover(g, xs, ofThem)
				expectNumber(t, "Recover of more, "+what, secret, e, poly[0])
			}
			for i, s := range shares {
				for _, other := range []int64{s, (s + 1) % g.P, (s + g.P - 1) % g.P, r.Int64N(g.P)} {
					expectBool(t, fmt.Sprint("Fits of ", other, " at ", i+1, ", ", what), share.Fits(g, commitments, int64(i+1), other), other == s)
				}
			}
		}
	}
}

// P8.5: in small groups, of all numbers just one fits at each place.
func TestOneNumberFits(t *testing.T) {
	r := newRandom()
	for _, g := range smallGroups() {
		for range 20 {
			poly := somePolynomial(r, g.P)
			shares, _ := share.Shares(g, poly, mostHalls(g))
			commitments, _ := share.Commit(g, poly)
			for i, right := range shares {
				for s := range g.P {
					expectBool(t, fmt.Sprint("Fits of ", s, " at ", i+1, ", ", g, ", ", poly), share.Fits(g, commitments, int64(i+1), s), s == right)
				}
			}
		}
	}
}

// P8.6: for all shares at some t places, each secret has just one polynomial: all are counted.
func TestSecrecy(t *testing.T) {
	r := newRandom()
	for _, g := range smallGroups() {
		for bound := 0; bound <= 3 && bound < int(g.P)-1; bound++ {
			if math.Pow(float64(g.P), float64(bound+1)) > 2500 {
				continue
			}
			places := r.Perm(mostHalls(g))[:bound]
			counts := map[string]int{}
			for poly := range lists(g.P, bound+1) {
				shares, e := share.Shares(g, poly, mostHalls(g))
				if e != api.OK {
					t.Fatalf("Shares: %d", e)
				}
				known := []int64{poly[0]}
				for _, i := range places {
					known = append(known, shares[i])
				}
				counts[fmt.Sprint(known)]++
			}
			for list := range lists(g.P, bound+1) {
				if counts[fmt.Sprint(list)] != 1 {
					t.Errorf("%v: %d polynomials have the secret and, at %v, the shares %v", g, counts[fmt.Sprint(list)], places, list)
				}
			}
		}
	}
}

// P8.7: as many wrong shares as can be healed, and less, of all numbers of shares.
func TestLiars(t *testing.T) {
	r := newRandom()
	for _, g := range groups() {
		for n := 1; n <= mostHalls(g); n += 1 + r.IntN(3) {
			bound := r.IntN(min(n, 16))
			poly := anyNumbers(r, g.P, bound+1)
			xs := anyXs(r, g.P, n)
			right := valuesAt(poly, xs, g.P)
			for _, wrong := range []int{0, healable(n, bound) / 2, healable(n, bound)} {
				shares, places := spoiled(r, g.P, right, wrong)
				what := fmt.Sprint("Heal in ", g, " of ", shares, " at ", xs, ", bound ", bound)
				expectHealed(t, what, g, bound, xs, shares, poly[0], places)
			}
		}
	}
}

// P8.7: the bounds at the ends, with n - bound - 1 even and odd, and all liars first or last.
func TestMostLiars(t *testing.T) {
	r := newRandom()
	for _, g := range []share.Group{found(67), found(65521), below(math.MaxInt32, 65519)} {
		for _, bound := range []int{0, 1, 14, 15} {
			for _, n := range []int{bound + 1, bound + 2, bound + 3, bound + 4, 63, 64} {
				poly := anyNumbers(r, g.P, bound+1)
				right := valuesAt(poly, from(1, n), g.P)
				first, last := slices.Clone(right), slices.Clone(right)
				for i := range healable(n, bound) {
					first[i] = (first[i] + 1) % g.P
					last[n-1-i] = (last[n-1-i] + g.P - 1) % g.P
				}
				for _, shares := range [][]int64{first, last} {
					what := fmt.Sprint("Heal in ", g, " of ", shares, ", bound ", bound)
					expectHealed(t, what, g, bound, from(1, n), shares, poly[0], differing(right, shares))
				}
			}
		}
	}
}

// P8.8: a polynomial with the constant coefficient 0 changes the shares by its own, and leaves the secret.
func TestRefreshing(t *testing.T) {
	r := newRandom()
	for _, g := range groups() {
		for range 20 {
			halls := mostHalls(g)
			a := anyNumbers(r, g.P, 1+r.IntN(min(16, halls)))
			b := anyNumbers(r, g.P, len(a))
			b[0] = 0
			sum, e := share.Sum(g, a, b)
			if e != api.OK {
				t.Fatalf("Sum in %v of %v and %v: %d", g, a, b, e)
			}
			ofA, _ := share.Shares(g, a, halls)
			ofB, _ := share.Shares(g, b, halls)
			both := make([]int64, halls)
			for i := range both {
				both[i] = (ofA[i] + ofB[i]) % g.P
			}
			what := fmt.Sprint(" in ", g, " of ", a, " and ", b)
			shares, e := share.Shares(g, sum, halls)
			expectList(t, "Shares of the sum"+what, shares, e, both)
			secret, e := share.Recover(g, from(1, halls)[:len(a)], both[:len(a)])
			expectNumber(t, "Recover of the sum"+what, secret, e, a[0])
			commitments, _ := share.Commit(g, sum)
			for i, s := range both {
				expectBool(t, fmt.Sprint("Fits of hall ", i+1, what), share.Fits(g, commitments, int64(i+1), s), true)
			}
		}
	}
}

// P8.9: what Prove returns holds for the key; two answers give the secret away.
func TestKnowledge(t *testing.T) {
	r := newRandom()
	for _, g := range groups() {
		for range 100 {
			n := anyNumbers(r, g.P, 4)
			key, e := g.Power(n[0])
			expectNumber(t, fmt.Sprint("Power in ", g), key, e, raised(g.G, n[0], g.R))
			p, _ := share.Prove(g, n[0], n[1], n[2])
			q, _ := share.Prove(g, n[0], n[1], n[3])
			expectBool(t, fmt.Sprint("Holds in ", g, " of ", p, " for ", key), share.Holds(g, key, p), true)
			if n[2] == n[3] {
				continue
			}
			secret, e := share.Extract(g, p, q)
			expectNumber(t, fmt.Sprint("Extract in ", g, " of ", p, " and ", q), secret, e, n[0])
			i, _ := share.Imitate(g, key, n[2], n[3])
			expectBool(t, fmt.Sprint("Holds in ", g, " of ", i, " for ", key), share.Holds(g, key, i), true)
		}
	}
}

// P8.9: in small groups, for each key: of all proofs, those that hold are the ones of Prove, and the ones of Imitate, as many for each challenge as nonces; Extract of any two that hold returns the secret.
func TestAllProofs(t *testing.T) {
	for _, g := range smallGroups()[:7] {
		for secret := range g.P {
			key, _ := g.Power(secret)
			for challenge := range g.P {
				holding, proved, imitated := map[share.Proof]bool{}, map[share.Proof]bool{}, map[share.Proof]bool{}
				for n := range g.P {
					p, _ := share.Prove(g, secret, n, challenge)
					proved[p] = true
					p, _ = share.Imitate(g, key, challenge, n)
					imitated[p] = true
					for _, announcement := range elements(g) {
						p = share.Proof{Announcement: announcement, Challenge: challenge, Response: n}
						if share.Holds(g, key, p) {
							holding[p] = true
						}
					}
				}
				if len(holding) != int(g.P) || !sameProofs(holding, proved) || !sameProofs(holding, imitated) {
					t.Errorf("%v, key %d, challenge %d: %v hold; Prove makes %v, Imitate %v", g, key, challenge, holding, proved, imitated)
				}
			}
			expectExtracted(t, g, secret)
		}
	}
}

func sameProofs(a, b map[share.Proof]bool) bool {
	for p := range a {
		if !b[p] {
			return false
		}
	}
	return len(a) == len(b)
}

// expectExtracted tries all pairs of proofs that hold, with the same announcement and different challenges.
func expectExtracted(t *testing.T, g share.Group, secret int64) {
	t.Helper()
	for nonce := range g.P {
		for a := range g.P {
			for b := range g.P {
				if a == b {
					continue
				}
				p, _ := share.Prove(g, secret, nonce, a)
				q, _ := share.Prove(g, secret, nonce, b)
				n, e := share.Extract(g, p, q)
				expectNumber(t, fmt.Sprint("Extract in ", g, " of ", p, " and ", q), n, e, secret)
			}
		}
	}
}

// The examples of the chapter.
func TestExamples(t *testing.T) {
	g, e := share.Find(11)
	if g != (share.Group{R: 23, P: 11, G: 4}) || e != api.OK {
		t.Fatalf("Find of 11: %v, %d", g, e)
	}
	shares, e := share.Shares(g, []int64{7, 3}, 3)
	expectList(t, "Shares", shares, e, []int64{10, 2, 5})
	commitments, e := share.Commit(g, []int64{7, 3})
	expectList(t, "Commit", commitments, e, []int64{8, 18})
	expectBool(t, "Fits of 10 at 1", share.Fits(g, commitments, 1, 10), true)
	expectBool(t, "Fits of 9 at 1", share.Fits(g, commitments, 1, 9), false)
	x, e := g.Power(10)
	expectNumber(t, "Power", x, e, 6)
	secret, e := share.Recover(g, []int64{1, 3}, []int64{10, 5})
	expectNumber(t, "Recover", secret, e, 7)
	expectHealed(t, "Heal", g, 1, []int64{1, 2, 3, 4}, []int64{10, 2, 5, 0}, 7, []int{3})
	p, e := share.Prove(g, 7, 5, 3)
	expectProof(t, "Prove", p, e, share.Proof{Announcement: 12, Challenge: 3, Response: 4})
	q, e := share.Prove(g, 7, 5, 4)
	expectProof(t, "Prove", q, e, share.Proof{Announcement: 12, Challenge: 4, Response: 0})
	secret, e = share.Extract(g, q, p)
	expectNumber(t, "Extract", secret, e, 7)
}
