package chance_test

import (
	"fmt"
	"math"
	"math/rand/v2"
	"reflect"
	"slices"
	"testing"

	"dauber/api"
	"dauber/chance"
	"dauber/tally"
)

// arguments are what all calls of the package take.
type arguments struct {
	p               [][]tally.Rat
	h, f            []tally.Rat
	m               int
	a, b            []int
	patterns, cards [][]int
	n, calls        int
}

// everyCall makes all calls, and returns the results of each of them: the last one is the error, or whether a list is a proof.
func everyCall(x arguments) [][]any {
	var made [][]any
	keep := func(results ...any) { made = append(made, results) }
	keep(chance.Check(x.p))
	ends, e := chance.Ends(x.p)
	keep(ends, e)
	absorbed, e := chance.Absorb(x.p)
	keep(absorbed, e)
	list, e := chance.Steps(x.p)
	keep(list, e)
	keep(chance.IsUpper(x.p, x.h))
	keep(chance.IsLower(x.p, x.h))
	list, e = chance.Value(x.p, x.f)
	keep(list, e)
	keep(chance.IsValue(x.p, x.f, x.h))
	wait, e := chance.Wait(x.m, x.a)
	keep(wait, e)
	lead, e := chance.Lead(x.m, x.a, x.b)
	keep(lead, e)
	r, e := chance.Before(x.m, x.a, x.b)
	keep(r, e)
	list, e = chance.Race(x.m, x.patterns)
	keep(list, e)
	r, e = chance.Full(x.n, x.cards, x.calls)
	keep(r, e)
	r, e = chance.Calls(x.n, x.cards)
	keep(r, e)
	list, e = chance.First(x.n, x.cards)
	keep(list, e)
	return made
}

// wild returns a number out of every range, or at its ends.
func wild(r *rand.Rand) int {
	list := []int{-1, 0, 1, 2, 3, 10, 11, 64, 65, 89, 90, 91, 128, math.MaxInt, math.MinInt}
	return list[r.IntN(len(list))]
}

// wildRat returns a fraction that is no chance, or a long one.
func wildRat(r *rand.Rand) tally.Rat {
	if r.IntN(10) == 0 {
		return huge()
	}
	list := []tally.Rat{{}, rat("-1"), rat("1"), rat("2"), rat("1/3"), fromBig(quotient(power(0, 0), power(40, 0)))}
	return list[r.IntN(len(list))]
}

// someArguments are valid or not.
func someArguments(r *rand.Rand, chains []sample) arguments {
	p := chains[r.IntN(len(chains))].p
	x := arguments{
		m:        2 + r.IntN(5),
		patterns: make([][]int, 1+r.IntN(4)),
		n:        1 + r.IntN(20),
	}
	for _, row := range p {
		x.p = append(x.p, slices.Clone(row))
	}
	x.h = fromBigs(someRewards(r, len(p)))
	x.f = fromBigs(someRewards(r, len(p)))
	if r.IntN(2) == 0 {
		x.h, _ = chance.Steps(p)
	}
	x.a, x.b = somePattern(r, x.m, 1+r.IntN(10)), somePattern(r, x.m, 1+r.IntN(10))
	for i := range x.patterns {
		x.patterns[i] = somePattern(r, x.m, 1+r.IntN(10))
	}
	x.cards = someCards(r, from(1, x.n), 1+r.IntN(6))
	x.calls = r.IntN(x.n + 1)
	if r.IntN(3) > 0 {
		return x
	}
	return spoiled(r, x)
}

// spoiled changes some of the arguments.
func spoiled(r *rand.Rand, x arguments) arguments {
	for _, number := range []*int{&x.m, &x.n, &x.calls, &x.a[r.IntN(len(x.a))], &x.b[0], &x.patterns[0][0], &x.cards[0][0]} {
		if r.IntN(5) == 0 {
			*number = wild(r)
		}
	}
	for _, number := range []*tally.Rat{&x.p[0][0], &x.h[r.IntN(len(x.h))], &x.f[0]} {
		if r.IntN(4) == 0 {
			*number = wildRat(r)
		}
	}
	switch r.IntN(8) {
	case 0:
		x.p = append(x.p, slices.Repeat([][]tally.Rat{nil}, r.IntN(20))...)
	case 1:
		x.p = nil
	case 2:
		x.p[r.IntN(len(x.p))] = make([]tally.Rat, r.IntN(20))
	case 3:
		x.h, x.f = x.h[1:], append(x.f, tally.Rat{})
	case 4:
		x.a, x.b = nil, repeated(11, 0)
	case 5:
		x.patterns, x.cards = nil, nil
	case 6:
		x.patterns = append(x.patterns, []int{0}, []int{1}, []int{2}, []int{3})
		x.cards = append(x.cards, []int{1}, []int{1}, []int{1}, []int{1}, []int{1}, []int{1})
	case 7:
		x.patterns[0], x.cards[0] = nil, nil
	}
	return x
}

// guard returns a copy of a list with an element beyond its length that must stay.
func guard[T any](list []T, last T) []T {
	return append(slices.Clone(list), last)[:len(list)]
}

func guardRows[T any](rows [][]T, last T) [][]T {
	result := guard(rows, []T{last})
	for i, row := range result {
		result[i] = guard(row, last)
	}
	return result
}

func (x arguments) guarded() arguments {
	last := rat("-77")
	x.p, x.h, x.f = guardRows(x.p, last), guard(x.h, last), guard(x.f, last)
	x.a, x.b = guard(x.a, -77), guard(x.b, -77)
	x.patterns, x.cards = guardRows(x.patterns, -77), guardRows(x.cards, -77)
	return x
}

// whole writes guarded arguments with what lies beyond the lengths of their lists.
func (x arguments) whole() string {
	text := fmt.Sprint(x.h[:len(x.h)+1], x.f[:len(x.f)+1], x.a[:len(x.a)+1], x.b[:len(x.b)+1])
	for _, row := range x.p {
		text += fmt.Sprint(row[:len(row)+1])
	}
	for _, row := range slices.Concat(x.patterns, x.cards) {
		text += fmt.Sprint(row[:len(row)+1])
	}
	return text + fmt.Sprint(x.p[len(x.p):len(x.p)+1], x.patterns[len(x.patterns):len(x.patterns)+1], x.cards[len(x.cards):len(x.cards)+1])
}

// spoil changes all elements of a list, also beyond its length.
func spoil[T any](list []T, by T) {
	list = list[:cap(list)]
	for i := range list {
		list[i] = by
	}
}

// overwrite changes all elements of all lists among the results.
func overwrite(made [][]any) {
	for _, result := range slices.Concat(made...) {
		switch list := result.(type) {
		case []int:
			spoil(list, -99)
		case []tally.Rat:
			spoil(list, rat("-99"))
		case [][]tally.Rat:
			for _, row := range list {
				spoil(row, rat("-99"))
			}
			clear(list[:cap(list)])
		}
	}
}

// P1, R4, R7: no call panics, changes its arguments, or reads or writes beyond their length; calls done again have the same results.
func TestCallsLeaveArguments(t *testing.T) {
	r, chains := newRandom(), slices.Concat(samples(), smallSamples())
	for range 300 {
		x := someArguments(r, chains)
		given := x.guarded()
		before := given.whole()
		got := everyCall(given)
		want := fmt.Sprint(got)
		overwrite(got)
		if given.whole() != before {
			t.Fatalf("changed: %s", before)
		}
		if fmt.Sprint(everyCall(given)) != want {
			t.Fatalf("not the same when the results were overwritten: %s", before)
		}
		if fmt.Sprint(everyCall(x)) != want {
			t.Fatalf("not the same with other capacities: %s", before)
		}
	}
}

// R2: beside an error there are zero values.
func TestNothingBesideErrors(t *testing.T) {
	r, chains := newRandom(), smallSamples()
	failed := map[api.Errno]bool{}
	for range 1000 {
		for _, results := range everyCall(someArguments(r, chains)) {
			last := len(results) - 1
			if e, is := results[last].(api.Errno); is && e != api.OK {
				failed[e] = true
				expectNothing(t, "a call with an error", results[:last]...)
			}
		}
	}
	for _, e := range []api.Errno{api.ErrArg, api.ErrLong, api.ErrShape, api.ErrChain, api.ErrPattern} {
		if !failed[e] {
			t.Errorf("no call returned %d", e)
		}
	}
}

// R4: the rows of one result share nothing, also beyond their lengths, and no result shares anything with an argument.
func TestResultsShareNothing(t *testing.T) {
	for _, s := range samples() {
		absorbed, _ := chance.Absorb(s.p)
		want := fmt.Sprint(absorbed[1:])
		spoil(absorbed[0], rat("-99"))
		if fmt.Sprint(absorbed[1:]) != want {
			t.Errorf("%s: rows share memory", s.name)
		}
		f := make([]tally.Rat, len(s.p))
		v, _ := chance.Value(s.p, f)
		spoil(v, rat("-99"))
		if !reflect.DeepEqual(f, make([]tally.Rat, len(s.p))) {
			t.Errorf("%s: the values are the rewards", s.name)
		}
	}
}
