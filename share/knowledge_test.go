package share_test

import (
	"fmt"
	"math"
	"testing"

	"dauber/api"
	"dauber/share"
)

// wrongNumbers are not from 0 to P - 1.
func wrongNumbers(g share.Group) []int64 {
	return []int64{-1, g.P, g.P + 1, -g.P, g.R, 1 << 32, 1 + 1<<62, math.MaxInt64, math.MinInt64}
}

// wrongElements are no elements; some of them leave one when divided by R.
func wrongElements(g share.Group) []int64 {
	return []int64{0, -1, g.R - 1, g.R, g.R + 1, 1 - g.R, g.G + g.R, g.G - g.R, -g.G, g.G + g.R<<31, math.MaxInt64, math.MinInt64}
}

// holds is the definition, of numbers that are in their ranges.
func holds(g share.Group, key int64, p share.Proof) bool {
	return raised(g.G, p.Response, g.R) == times(g.R, p.Announcement, raised(key, p.Challenge, g.R))
}

// P8.4: Prove of all numbers in small groups, of some in large ones.
func TestProve(t *testing.T) {
	r := newRandom()
	for _, g := range groups() {
		for range 200 {
			n := anyNumbers(r, g.P, 3)
			p, e := share.Prove(g, n[0], n[1], n[2])
			want := share.Proof{Announcement: raised(g.G, n[1], g.R), Challenge: n[2], Response: (n[1] + times(g.P, n[0], n[2])) % g.P}
			expectProof(t, fmt.Sprint("Prove in ", g, " of ", n), p, e, want)
		}
	}
}

// P8.4: numbers that are not from 0 to P - 1.
func TestProveOfWrongNumbers(t *testing.T) {
	for _, g := range groups() {
		for _, wrong := range wrongNumbers(g) {
			for _, n := range [][]int64{{wrong, 1, 2}, {1, wrong, 2}, {1, 2, wrong}, {wrong, wrong, wrong}, {wrong, 0, 0}, {0, 0, wrong}} {
				p, e := share.Prove(g, n[0], n[1], n[2])
				expectError(t, fmt.Sprint("Prove in ", g, " of ", n), e, api.ErrArg, p)
			}
		}
	}
}

// P8.4: in the smallest groups, Holds of all numbers.
func TestHoldsInSmallestGroups(t *testing.T) {
	for _, g := range smallGroups()[:4] {
		is := map[int64]bool{}
		for _, x := range elements(g) {
			is[x] = true
		}
		for key := int64(-1); key < g.R+2; key++ {
			for announcement := int64(-1); announcement < g.R+2; announcement++ {
				for challenge := int64(-1); challenge < g.P+1; challenge++ {
					for response := int64(-1); response < g.P+1; response++ {
						p := share.Proof{Announcement: announcement, Challenge: challenge, Response: response}
						want := is[key] && is[announcement] && challenge >= 0 && challenge < g.P && response >= 0 && response < g.P && holds(g, key, p)
						expectBool(t, fmt.Sprint("Holds in ", g, " of ", p, " for ", key), share.Holds(g, key, p), want)
					}
				}
			}
		}
	}
}

// P8.4: proofs that hold, and those in which a number is another one.
func TestHolds(t *testing.T) {
	r := newRandom()
	for _, g := range groups() {
		for range 50 {
			n := anyNumbers(r, g.P, 3)
			key := raised(g.G, n[0], g.R)
			p, _ := share.Prove(g, n[0], n[1], n[2])
			expectBool(t, fmt.Sprint("Holds in ", g, " of ", p, " for ", key), share.Holds(g, key, p), true)
			other := times(g.R, key, g.G)
			for _, q := range beside(g, p) {
				expectBool(t, fmt.Sprint("Holds in ", g, " of ", q, " for ", key), share.Holds(g, key, q), holds(g, key, q))
				expectBool(t, fmt.Sprint("Holds in ", g, " of ", q, " for ", other), share.Holds(g, other, q), holds(g, other, q))
			}
			for _, wrong := range wrongNumbers(g) {
				q := p
				q.Challenge = wrong
				expectBool(t, fmt.Sprint("Holds in ", g, " of ", q, " for ", key), share.Holds(g, key, q), false)
				q = p
				q.Response = wrong
				expectBool(t, fmt.Sprint("Holds in ", g, " of ", q, " for ", key), share.Holds(g, key, q), false)
			}
			for _, wrong := range append(wrongElements(g), key+g.R, key-g.R, g.R-key) {
				expectBool(t, fmt.Sprint("Holds in ", g, " of ", p, " for ", wrong), share.Holds(g, wrong, p), false)
			}
			for _, wrong := range append(wrongElements(g), p.Announcement+g.R, p.Announcement-g.R, g.R-p.Announcement) {
				q := p
				q.Announcement = wrong
				expectBool(t, fmt.Sprint("Holds in ", g, " of ", q, " for ", key), share.Holds(g, key, q), false)
			}
		}
	}
}

// beside returns proofs with one other number that is in its range.
func beside(g share.Group, p share.Proof) []share.Proof {
	return []share.Proof{
		{Announcement: times(g.R, p.Announcement, g.G), Challenge: p.Challenge, Response: p.Response},
		{Announcement: p.Announcement, Challenge: (p.Challenge + 1) % g.P, Response: p.Response},
		{Announcement: p.Announcement, Challenge: (p.Challenge + g.P - 1) % g.P, Response: p.Response},
		{Announcement: p.Announcement, Challenge: p.Challenge, Response: (p.Response + 1) % g.P},
		{Announcement: p.Announcement, Challenge: p.Challenge, Response: (p.Response + g.P - 1) % g.P},
		{Announcement: p.Announcement, Challenge: p.Response, Response: p.Challenge},
	}
}

// P8.4: numbers with which proofs would hold if they were not out of their ranges: a product of two that are no elements can be one.
func TestHoldsOfNoElements(t *testing.T) {
	for _, g := range groups() {
		minus := g.R - 1
		p := share.Proof{Announcement: minus, Challenge: 1, Response: 0}
		expectBool(t, fmt.Sprint("Holds in ", g, " of -1 for -1"), share.Holds(g, minus, p), false)
		p.Announcement = 1
		p.Challenge = 2
		expectBool(t, fmt.Sprint("Holds in ", g, " of 1 for -1"), share.Holds(g, minus, p), false)
		p.Challenge = 0
		expectBool(t, fmt.Sprint("Holds in ", g, " of 1 for -1, challenge 0"), share.Holds(g, minus, p), false)
		expectBool(t, fmt.Sprint("Holds in ", g, " of 1 for 0, challenge 0"), share.Holds(g, 0, p), false)
		expectBool(t, fmt.Sprint("Holds in ", g, " of 1 for 1, challenge 0"), share.Holds(g, 1, p), true)
	}
}

// P8.4: Extract of any two proofs with the same announcement and different challenges, whether they hold for a key or not.
func TestExtract(t *testing.T) {
	r := newRandom()
	for _, g := range groups() {
		for range 100 {
			n := anyNumbers(r, g.P, 4)
			announcement := raised(g.G, r.Int64N(g.P), g.R)
			p := share.Proof{Announcement: announcement, Challenge: n[0], Response: n[1]}
			q := share.Proof{Announcement: announcement, Challenge: n[2], Response: n[3]}
			secret, e := share.Extract(g, p, q)
			what := fmt.Sprint("Extract in ", g, " of ", p, " and ", q)
			if n[0] == n[2] {
				expectError(t, what, e, api.ErrSame, secret)
			} else {
				expectNumber(t, what, secret, e, over((n[1]-n[3]+g.P)%g.P, (n[0]-n[2]+g.P)%g.P, g.P))
			}
		}
	}
}

// P8.4: proofs of which Extract makes nothing; ErrProof comes before ErrSame.
func TestExtractOfWrongProofs(t *testing.T) {
	for _, g := range groups() {
		p := share.Proof{Announcement: g.G, Challenge: 1, Response: 2}
		expect := func(q, s share.Proof, want api.Errno) {
			t.Helper()
			for _, pair := range [][2]share.Proof{{q, s}, {s, q}} {
				secret, e := share.Extract(g, pair[0], pair[1])
				expectError(t, fmt.Sprint("Extract in ", g, " of ", pair), e, want, secret)
			}
		}
		expect(p, p, api.ErrSame)
		expect(p, share.Proof{Announcement: g.G, Challenge: 1, Response: 0}, api.ErrSame)
		for _, challenge := range []int64{0, 1} {
			expect(p, share.Proof{Announcement: 1, Challenge: challenge, Response: 2}, api.ErrProof)
			for _, wrong := range wrongNumbers(g) {
				expect(p, share.Proof{Announcement: g.G, Challenge: challenge, Response: wrong}, api.ErrProof)
				expect(p, share.Proof{Announcement: g.G, Challenge: wrong, Response: 2}, api.ErrProof)
			}
			for _, wrong := range wrongElements(g) {
				q := share.Proof{Announcement: wrong, Challenge: challenge, Response: 2}
				expect(p, q, api.ErrProof)
				expect(q, q, api.ErrProof)
				expect(q, share.Proof{Announcement: wrong, Challenge: 2, Response: 1}, api.ErrProof)
			}
		}
		for _, wrong := range wrongNumbers(g) {
			q := share.Proof{Announcement: g.G, Challenge: wrong, Response: wrong}
			expect(q, q, api.ErrProof)
		}
	}
}

// P8.4: Imitate returns the proof with the only announcement that holds.
func TestImitate(t *testing.T) {
	r := newRandom()
	for _, g := range groups() {
		for range 100 {
			n := anyNumbers(r, g.P, 3)
			key := raised(g.G, n[0], g.R)
			p, e := share.Imitate(g, key, n[1], n[2])
			want := share.Proof{Announcement: times(g.R, raised(g.G, n[2], g.R), raised(key, times(g.P, n[1], g.P-1), g.R)), Challenge: n[1], Response: n[2]}
			expectProof(t, fmt.Sprint("Imitate in ", g, " of ", key, n[1], n[2]), p, e, want)
		}
	}
}

// P8.4: keys that are no elements, and numbers that are not from 0 to P - 1.
func TestImitateOfWrongNumbers(t *testing.T) {
	for _, g := range groups() {
		for _, wrong := range wrongNumbers(g) {
			p, e := share.Imitate(g, g.G, wrong, 1)
			expectError(t, fmt.Sprint("Imitate in ", g, ", challenge ", wrong), e, api.ErrArg, p)
			p, e = share.Imitate(g, g.G, 1, wrong)
			expectError(t, fmt.Sprint("Imitate in ", g, ", response ", wrong), e, api.ErrArg, p)
		}
		for _, wrong := range wrongElements(g) {
			for _, challenge := range []int64{0, 1, 2} {
				p, e := share.Imitate(g, wrong, challenge, 1)
				expectError(t, fmt.Sprint("Imitate in ", g, ", key ", wrong), e, api.ErrArg, p)
			}
		}
		p, e := share.Imitate(g, 1, 0, 0)
		expectProof(t, fmt.Sprint("Imitate in ", g, " of 1, 0, 0"), p, e, share.Proof{Announcement: 1})
	}
}
