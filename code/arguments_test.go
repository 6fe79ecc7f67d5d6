package code_test

import (
	"math"
	"math/rand/v2"
	"reflect"
	"slices"
	"testing"

	"dauber/api"
	"dauber/code"
	"dauber/tally"
)

// arguments are what all calls of the package take.
type arguments struct {
	c                                 code.Code
	message, w, erased, taps, s, q, e []int
	rows                              [][]int
	weights                           []tally.Int
	radius, dimension, n              int
}

func (a arguments) far() code.Far {
	return code.Far{Q: a.q, E: a.e}
}

// everyCall makes all calls, and returns the results of each of them.
func everyCall(a arguments) [][]any {
	var calls [][]any
	keep := func(results ...any) { calls = append(calls, results) }
	order := a.c.Order
	keep(code.Check(a.c))
	keep(code.IsWord(a.c, a.w))
	keep(code.Denies(a.c, a.w, a.erased, a.far()))
	list, e := code.Encode(a.c, a.message)
	keep(list, e)
	list, e = code.Message(a.c, a.w)
	keep(list, e)
	list, e = code.Decode(a.c, a.w, a.erased)
	keep(list, e)
	far, is := code.Deny(a.c, a.w, a.erased)
	keep(far.Q, far.E, is)
	rows, e := code.Within(a.c, a.w, a.radius)
	keep(rows, e)
	weights, e := code.Weights(order, a.rows)
	keep(weights, e)
	rows, e = code.Dual(order, a.rows)
	keep(rows, e)
	weights, e = code.Transform(order, a.dimension, a.weights)
	keep(weights, e)
	weights, e = code.Singleton(order, a.n, a.dimension)
	keep(weights, e)
	list, e = code.Shortest(order, a.s)
	keep(list, e)
	list, e = code.Profile(order, a.s)
	keep(list, e)
	is, e = code.Makes(order, a.taps, a.s)
	keep(is, e)
	return calls
}

// everyResult returns the results of all calls in a row.
func everyResult(a arguments) []any {
	return slices.Concat(everyCall(a)...)
}

// someList returns a list of n elements, among which there may be numbers that are none.
func someList(r *rand.Rand, q, n int) []int {
	list := anyList(r, max(q, 1), n)
	if n > 0 && r.IntN(12) == 0 {
		list[r.IntN(n)] = []int{-1, q, math.MaxInt, math.MinInt}[r.IntN(4)]
	}
	return list
}

// someArguments are valid or not.
func someArguments(r *rand.Rand) arguments {
	q := []int{2, 3, 4, 5, 7, 8, 9, 16, 17, 6, 1, 0, -3}[r.IntN(13)]
	var a arguments
	n := r.IntN(min(max(q, 1), 6)) + 1
	a.c = code.Code{Order: q, Points: r.Perm(max(q, n))[:n], K: 1 + r.IntN(n)}
	if r.IntN(15) == 0 {
		a.c.Points = someList(r, q, n)
		a.c.K = r.IntN(n+3) - 1
	}
	length := func(right int) int { return max(0, right+r.IntN(13)/12) }
	a.message = someList(r, q, length(max(0, a.c.K)))
	a.w = someList(r, q, length(n))
	if r.IntN(2) == 0 {
		if word, e := code.Encode(a.c, a.message); e == api.OK && len(a.w) == n {
			copy(a.w[r.IntN(n):], word[r.IntN(n):])
		}
	}
	a.erased = r.Perm(n)[:r.IntN(n)]
	if r.IntN(15) == 0 {
		a.erased = someList(r, n, r.IntN(n+1))
	}
	a.q, a.e = someList(r, q, r.IntN(n+1)), someList(r, q, r.IntN(3))
	if far, denied := code.Deny(a.c, a.w, a.erased); denied && r.IntN(2) == 0 {
		a.q, a.e = far.Q, far.E
	}
	a.s = someList(r, q, r.IntN(12))
	a.taps = someList(r, q, r.IntN(len(a.s)+2))
	a.rows = make([][]int, r.IntN(4))
	columns := r.IntN(5)
	for i := range a.rows {
		a.rows[i] = someList(r, q, max(0, columns-r.IntN(30)/29))
	}
	a.weights = make([]tally.Int, r.IntN(9))
	for i := range a.weights {
		a.weights[i] = anyWeight(r, 990+r.IntN(12))
	}
	a.dimension, a.n = r.IntN(max(1, len(a.weights)+1))-r.IntN(15)/14, r.IntN(10)
	a.radius = []int{0, 1, 2, r.IntN(8) - 1, math.MaxInt}[r.IntN(5)]
	return a
}

// guarded returns a copy of the list, with numbers beyond its length that must stay.
func guarded(list []int) []int {
	return append(slices.Clone(list), -77, -78, -79)[:len(list)]
}

func (a arguments) guarded() arguments {
	a.c.Points = guarded(a.c.Points)
	for _, list := range []*[]int{&a.message, &a.w, &a.erased, &a.taps, &a.s, &a.q, &a.e} {
		*list = guarded(*list)
	}
	rows := make([][]int, len(a.rows), len(a.rows)+1)
	for i, row := range a.rows {
		rows[i] = guarded(row)
	}
	rows[:len(rows)+1][len(rows)] = []int{-77}
	a.rows = rows
	a.weights = append(slices.Clone(a.weights), tally.Of(-77), tally.Of(-78))[:len(a.weights)]
	return a
}

// isUnchanged compares the arguments, and what lies beyond their lengths, with what they were.
func (a arguments) isUnchanged(before arguments) bool {
	lists := func(a arguments) [][]int {
		return append([][]int{a.c.Points, a.message, a.w, a.erased, a.taps, a.s, a.q, a.e}, a.rows...)
	}
	old := lists(before)
	for i, list := range lists(a) {
		if !slices.Equal(list, old[i]) || !slices.Equal(list[len(list):len(list)+3], []int{-77, -78, -79}) {
			return false
		}
	}
	beyond := a.weights[len(a.weights) : len(a.weights)+2]
	return sameIntegers(a.weights, before.weights) && sameIntegers(beyond, integers(-77, -78)) && slices.Equal(a.rows[:len(a.rows)+1][len(a.rows)], []int{-77})
}

// overwrite changes all elements of all lists among the results.
func overwrite(results []any) {
	spoil := func(list []int) {
		list = list[:cap(list)]
		for i := range list {
			list[i] = -99
		}
	}
	for _, result := range results {
		switch list := result.(type) {
		case []int:
			spoil(list)
		case [][]int:
			for _, row := range list {
				spoil(row)
			}
		case []tally.Int:
			list = list[:cap(list)]
			for i := range list {
				list[i] = tally.Of(-99)
			}
		}
	}
}

// written returns the results in a form that shares nothing with them; nil and empty lists are the same.
func written(results []any) []any {
	var all []any
	for _, result := range results {
		switch list := result.(type) {
		case []int:
			all = append(all, append([]int{}, list...))
		case [][]int:
			all = append(all, len(list))
			for _, row := range list {
				all = append(all, append([]int{}, row...))
			}
		case []tally.Int:
			all = append(all, len(list))
			for _, n := range list {
				all = append(all, n.String())
			}
		default:
			all = append(all, result)
		}
	}
	return all
}

// P1, R4, R7: no call panics, changes its arguments, or reads or writes beyond their length; results share nothing; calls done again have the same results.
func TestCallsLeaveArguments(t *testing.T) {
	r := newRandom()
	for range 2000 {
		a := someArguments(r)
		want := written(everyResult(a.guarded()))
		again := a.guarded()
		got := everyResult(again)
		if !reflect.DeepEqual(written(got), want) {
			t.Fatalf("not the same again: %v", a)
		}
		overwrite(got)
		if !again.isUnchanged(a) {
			t.Fatalf("changed: %v", a)
		}
		if !reflect.DeepEqual(written(everyResult(a)), want) {
			t.Fatalf("not the same when the results were overwritten: %v", a)
		}
	}
}

// R2: beside an error or a false there are zero values.
func TestNothingBesideErrors(t *testing.T) {
	r := newRandom()
	failed := map[api.Errno]bool{}
	for range 4000 {
		for _, results := range everyCall(someArguments(r)) {
			last := len(results) - 1
			switch x := results[last].(type) {
			case api.Errno:
				if x != api.OK {
					failed[x] = true
					expectError(t, "a call", x, x, results[:last]...)
				}
			case bool:
				if !x {
					expectError(t, "a call", api.OK, api.OK, results[:last]...)
				}
			}
		}
	}
	for _, e := range []api.Errno{api.ErrArg, api.ErrShape, api.ErrField, api.ErrFar, api.ErrMany} {
		if !failed[e] {
			t.Errorf("no call returned %d", e)
		}
	}
}

// R4: the lists of one result share nothing, also beyond their lengths.
func TestResultsShareNothing(t *testing.T) {
	c := firstPoints(7, 6, 2)
	w := []int{1, 3, 6, 6, 0, 0}
	for i := range 2 {
		far, _ := code.Deny(c, w, nil)
		parts := [][]int{far.Q, far.E}
		want := slices.Clone(parts[1-i])
		overwrite([]any{parts[i]})
		expectList(t, "a polynomial when the other one was overwritten", parts[1-i], api.OK, want)
	}
	words, _ := code.Within(c, w, 6)
	dual, _ := code.Dual(7, [][]int{{1, 3, 6, 6, 0, 0}, {0, 0, 1, 2, 3, 4}})
	for _, rows := range [][][]int{words, dual} {
		for i := range rows {
			want := slices.Clone(rows[(i+1)%len(rows)])
			overwrite([]any{rows[i]})
			expectList(t, "a row when another one was overwritten", rows[(i+1)%len(rows)], api.OK, want)
			copy(rows[i], want)
		}
	}
}

// P1: lists that are far too long.
func TestLongArguments(t *testing.T) {
	long := make([]int, 1<<20)
	c := firstPoints(7, 6, 2)
	word, e := code.Encode(c, long)
	expectError(t, "Encode", e, api.ErrShape, word)
	word, e = code.Decode(c, long, nil)
	expectError(t, "Decode", e, api.ErrShape, word)
	word, e = code.Decode(c, make([]int, 6), long)
	expectError(t, "Decode", e, api.ErrShape, word)
	for _, far := range []code.Far{{Q: long, E: []int{1}}, {Q: []int{1}, E: long}, {Q: long, E: long}} {
		if code.Denies(c, make([]int, 6), nil, far) {
			t.Error("Denies of a long pair")
		}
	}
	expectError(t, "Check", code.Check(code.Code{Order: 7, Points: long, K: 2}), api.ErrLong)
	weights, e := code.Weights(7, [][]int{long})
	expectError(t, "Weights", e, api.ErrLong, weights)
	weights, e = code.Weights(7, make([][]int, 1<<20))
	expectError(t, "Weights", e, api.ErrLong, weights)
	weights, e = code.Transform(7, 3, make([]tally.Int, 1<<20))
	expectError(t, "Transform", e, api.ErrArg, weights)
	word, e = code.Shortest(7, long)
	expectError(t, "Shortest", e, api.ErrLong, word)
	is, e := code.Makes(7, long, make([]int, 200))
	expectError(t, "Makes", e, api.ErrArg, is)
}
