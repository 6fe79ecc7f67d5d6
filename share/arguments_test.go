package share_test

import (
	"fmt"
	"math"
	"math/rand/v2"
	"slices"
	"testing"

	"dauber/api"
	"dauber/share"
)

// arguments are what all calls of the package take.
type arguments struct {
	g                        share.Group
	power                    int64
	poly, other, commitments []int64
	xs, shares               []int64
	halls, bound             int
	x, s, key                int64
	secret, nonce, challenge int64
	p, q                     share.Proof
}

// everyCall makes all calls that take a group, and returns the results of each of them: the last one is the error, or whether something is so.
func everyCall(a arguments) [][]any {
	var made [][]any
	keep := func(results ...any) { made = append(made, results) }
	keep(share.Check(a.g))
	x, e := a.g.Power(a.power)
	keep(x, e)
	keep(a.g.Has(a.x))
	list, e := share.Shares(a.g, a.poly, a.halls)
	keep(list, e)
	list, e = share.Commit(a.g, a.poly)
	keep(list, e)
	keep(share.Fits(a.g, a.commitments, a.x, a.s))
	x, e = share.Recover(a.g, a.xs, a.shares)
	keep(x, e)
	list, e = share.Poly(a.g, a.xs, a.shares)
	keep(list, e)
	secret, liars, e := share.Heal(a.g, a.bound, a.xs, a.shares)
	keep(secret, liars, e)
	list, e = share.Sum(a.g, a.poly, a.other)
	keep(list, e)
	p, e := share.Prove(a.g, a.secret, a.nonce, a.challenge)
	keep(p, e)
	keep(share.Holds(a.g, a.key, a.p))
	x, e = share.Extract(a.g, a.p, a.q)
	keep(x, e)
	p, e = share.Imitate(a.g, a.key, a.challenge, a.s)
	keep(p, e)
	return made
}

// ordinary are valid in the group of 11 elements.
func ordinary() arguments {
	return arguments{
		power: 3, poly: []int64{7, 3}, other: []int64{1, 0}, commitments: []int64{8, 18},
		xs: []int64{1, 2, 3, 4}, shares: []int64{10, 2, 5, 0}, halls: 3, bound: 1,
		x: 1, s: 10, key: 8, secret: 7, nonce: 5, challenge: 3,
		p: share.Proof{Announcement: 12, Challenge: 3, Response: 4},
		q: share.Proof{Announcement: 12, Challenge: 4, Response: 0},
	}
}

// longArguments have lists that are far too long.
func longArguments() arguments {
	a := ordinary()
	long := make([]int64, 1<<20)
	a.poly, a.other, a.commitments, a.xs, a.shares = long, long, long, long, long
	return a
}

// wrongArguments are out of all ranges.
func wrongArguments() arguments {
	wrong := []int64{math.MinInt64, -1}
	p := share.Proof{Announcement: -1, Challenge: math.MaxInt64, Response: math.MinInt64}
	return arguments{
		power: -1, poly: wrong, other: wrong[1:], commitments: wrong, xs: wrong, shares: wrong[1:], halls: -1, bound: -1,
		x: -1, s: -1, key: -1, secret: -1, nonce: -1, challenge: -1, p: p, q: p,
	}
}

// wild returns a number out of some range, or at its end.
func wild(r *rand.Rand, g share.Group) int64 {
	list := []int64{-1, 0, 1, 2, 15, 16, 17, 63, 64, 65, g.P - 1, g.P, g.P + 1, g.R - 1, g.R, g.R + 1, -g.R, 1 << 31, 1 << 32, 1 << 62, math.MaxInt64, math.MinInt64}
	return list[r.IntN(len(list))]
}

// someArguments are valid or not.
func someArguments(r *rand.Rand, all []share.Group) arguments {
	g := all[r.IntN(len(all))]
	a := arguments{g: g, power: r.Int64N(g.P), poly: somePolynomial(r, g.P)}
	a.other = anyNumbers(r, g.P, len(a.poly))
	a.commitments, _ = share.Commit(g, a.poly)
	n := 1 + r.IntN(mostHalls(g))
	a.bound = r.IntN(min(n, 16))
	a.xs = anyXs(r, g.P, n)
	a.shares, _ = spoiled(r, g.P, valuesAt(anyNumbers(r, g.P, a.bound+1), a.xs, g.P), r.IntN(min(n, healable(n, a.bound)+1)+1))
	a.halls = 1 + r.IntN(mostHalls(g))
	a.x = 1 + r.Int64N(int64(mostHalls(g)))
	a.s = valueAt(a.poly, a.x, g.P)
	numbers := anyNumbers(r, g.P, 4)
	a.secret, a.nonce, a.challenge = numbers[0], numbers[1], numbers[2]
	a.key = raised(g.G, a.secret, g.R)
	a.p, _ = share.Prove(g, a.secret, a.nonce, a.challenge)
	a.q, _ = share.Prove(g, a.secret, a.nonce, numbers[3])
	if r.IntN(2) == 0 {
		return a
	}
	return wildly(r, a)
}

// wildly changes some of the arguments.
func wildly(r *rand.Rand, a arguments) arguments {
	numbers := []*int64{
		&a.g.R, &a.g.P, &a.g.G, &a.power, &a.x, &a.s, &a.key, &a.secret, &a.nonce, &a.challenge,
		&a.p.Announcement, &a.p.Challenge, &a.p.Response, &a.q.Announcement, &a.q.Challenge,
		&a.poly[0], &a.other[len(a.other)-1], &a.commitments[0], &a.xs[0], &a.shares[len(a.shares)-1],
	}
	for _, n := range numbers {
		if r.IntN(8) == 0 {
			*n = wild(r, a.g)
		}
	}
	if r.IntN(3) == 0 {
		a.halls, a.bound = int(wild(r, a.g)), int(wild(r, a.g))
	}
	if len(a.xs) > 1 && r.IntN(4) == 0 {
		a.xs[0] = a.xs[1]
	}
	for _, list := range []*[]int64{&a.poly, &a.other, &a.commitments, &a.xs, &a.shares} {
		if r.IntN(8) == 0 {
			*list = [][]int64{nil, (*list)[1:], append(*list, 1), make([]int64, 17), make([]int64, 65)}[r.IntN(5)]
		}
	}
	return a
}

// guarded returns a copy of the arguments whose lists have a number beyond their length that must stay.
func (a arguments) guarded() arguments {
	for _, list := range []*[]int64{&a.poly, &a.other, &a.commitments, &a.xs, &a.shares} {
		*list = append(slices.Clone(*list), -77)[:len(*list)]
	}
	return a
}

// whole writes guarded arguments with what lies beyond the lengths of their lists.
func (a arguments) whole() string {
	text := fmt.Sprint(a)
	for _, list := range [][]int64{a.poly, a.other, a.commitments, a.xs, a.shares} {
		text += fmt.Sprint(list[:len(list)+1])
	}
	return text
}

// overwrite changes all elements of all lists among the results, also beyond their lengths.
func overwrite(made [][]any) {
	for _, result := range slices.Concat(made...) {
		switch list := result.(type) {
		case []int:
			list = list[:cap(list)]
			for i := range list {
				list[i] = -99
			}
		case []int64:
			list = list[:cap(list)]
			for i := range list {
				list[i] = -99
			}
		}
	}
}

// P1, R4, R7: no call panics, changes its arguments, or reads or writes beyond their length; calls done again have the same results.
func TestCallsLeaveArguments(t *testing.T) {
	r, all := newRandom(), groups()
	for range 2000 {
		a := someArguments(r, all)
		given := a.guarded()
		before := given.whole()
		got := everyCall(given)
		want := fmt.Sprint(got)
		overwrite(got)
		if given.whole() != before {
			t.Fatalf("changed: %s", before)
		}
		if fmt.Sprint(everyCall(given)) != want {
			t.Fatalf("not the same when the results were overwritten: %s", before)
		}
		if fmt.Sprint(everyCall(a)) != want {
			t.Fatalf("not the same with other capacities: %s", before)
		}
	}
}

// R2: beside an error there are zero values.
func TestNothingBesideErrors(t *testing.T) {
	r, all := newRandom(), groups()
	failed := map[api.Errno]bool{}
	for range 4000 {
		for _, results := range everyCall(someArguments(r, all)) {
			last := len(results) - 1
			if e, is := results[last].(api.Errno); is && e != api.OK {
				failed[e] = true
				expectError(t, "a call", e, e, results[:last]...)
			}
		}
	}
	for _, e := range []api.Errno{api.ErrArg, api.ErrLong, api.ErrShape, api.ErrFar, api.ErrGroup, api.ErrSame, api.ErrProof} {
		if !failed[e] {
			t.Errorf("no call returned %d", e)
		}
	}
}

// P1: lists that are far too long, in a group.
func TestLongArguments(t *testing.T) {
	a := longArguments()
	a.g = found(11)
	counts := map[api.Errno]int{}
	for _, results := range everyCall(a) {
		if e, is := results[len(results)-1].(api.Errno); is {
			counts[e]++
		}
	}
	if counts[api.ErrLong] != 6 {
		t.Errorf("the errors are %v", counts)
	}
}
