package perm_test

import (
	"math"
	"math/rand/v2"
	"reflect"
	"slices"
	"testing"

	"dauber/api"
	"dauber/perm"
	"dauber/tally"
)

// arguments are what all calls of the package take.
type arguments struct {
	n                  int
	generators         [][]int
	a, b, draws, dyes  []int
	word               [][2]int
	k, power           int64
	point, other, dyed int
}

// everyCall makes all calls, and returns the results of each of them.
func everyCall(x arguments) [][]any {
	var calls [][]any
	keep := func(results ...any) { calls = append(calls, results) }
	keep(perm.Check(x.a))
	keepList := func(list []int, e api.Errno) { keep(list, e) }
	keepList(perm.Product(x.a, x.b))
	keepList(perm.Inverse(x.a))
	keepList(perm.Power(x.a, x.power))
	cycles, e := perm.Cycles(x.a)
	keep(cycles, e)
	sign, e := perm.Sign(x.a)
	keep(sign, e)
	rank, e := perm.Rank(x.a)
	keep(rank, e)
	keepList(perm.Unrank(x.n, x.k))
	keepList(perm.Shuffle(x.draws))
	keepList(perm.Draws(x.a))
	g, e := perm.New(x.n, x.generators)
	if g == nil {
		keep(g, e)
	}
	calls = append(calls, groupCalls(g, x)...)
	fixing, e := g.Fixing(x.point)
	if fixing == nil {
		keep(fixing, e)
	}
	calls = append(calls, groupCalls(fixing, x)...)
	return append(calls, groupCalls(g.Derived(), x)...)
}

// groupCalls makes the calls of a group, and each of them after all others again.
func groupCalls(g *perm.Group, x arguments) [][]any {
	var calls [][]any
	keep := func(results ...any) { calls = append(calls, results) }
	keepList := func(list []int, e api.Errno) { keep(list, e) }
	for range 2 {
		keep(g.Points(), g.Order(), g.Soluble(), api.OK)
		keep(g.Strong(), g.Orbits(), api.OK)
		keep(g.Has(x.a), g.Spells(x.word, x.a), api.OK)
		word, e := g.Word(x.a)
		keep(word, e)
		keepList(g.Element(x.k))
		place, e := g.Place(x.a)
		keep(place, e)
		keepList(g.Block(x.point, x.other))
		keepList(g.Conjugate(x.a, x.b))
		patterns, e := g.Patterns(x.dyed)
		keep(patterns, e)
		keepList(g.Least(x.dyes))
	}
	return calls
}

// somePermutation returns a list that is one, of n points, or not.
func somePermutation(r *rand.Rand, n int) []int {
	list := r.Perm(max(0, min(n, 22)))
	switch r.IntN(30) {
	case 0:
		return r.Perm(r.IntN(22))
	case 1:
		if len(list) > 0 {
			list[r.IntN(len(list))] = []int{-1, n, 0, math.MaxInt, math.MinInt}[r.IntN(5)]
		}
	}
	return list
}

// someArguments are valid or not.
func someArguments(r *rand.Rand) arguments {
	x := arguments{n: r.IntN(7) + 1}
	if r.IntN(10) == 0 {
		x.n = []int{0, -1, 19, 20, 21, math.MaxInt}[r.IntN(6)]
	}
	for range []int{r.IntN(4), 17}[r.IntN(30)/29] {
		x.generators = append(x.generators, somePermutation(r, x.n))
	}
	x.a, x.b = somePermutation(r, x.n), somePermutation(r, x.n)
	g, _ := perm.New(x.n, x.generators)
	if g != nil && r.IntN(2) == 0 {
		x.a, _ = g.Element(r.Int64N(g.Order()))
		x.b, _ = g.Element(r.Int64N(g.Order()))
		x.word, _ = g.Word(x.a)
	}
	for i := range x.a {
		x.draws = append(x.draws, r.IntN(i+1)-r.IntN(60)/59)
		x.dyes = append(x.dyes, r.IntN(3)-r.IntN(60)/59)
	}
	for range r.IntN(3) {
		x.word = append(x.word, [2]int{r.IntN(5) - 1, r.IntN(5) - 2})
	}
	x.k = []int64{0, 1, r.Int64N(30), -1, math.MinInt64, math.MaxInt64}[r.IntN(6)]
	x.power = []int64{r.Int64N(30), -r.Int64N(30), math.MinInt64, math.MaxInt64}[r.IntN(4)]
	x.point, x.other, x.dyed = r.IntN(9)-1, r.IntN(9)-1, []int{0, 1, 2, 3, 100, 101, math.MinInt}[r.IntN(7)]
	return x
}

// guarded returns a copy of the list, with numbers beyond its length that must stay.
func guarded(list []int) []int {
	return append(slices.Clone(list), -77, -78, -79)[:len(list)]
}

func (x arguments) guarded() arguments {
	for _, list := range []*[]int{&x.a, &x.b, &x.draws, &x.dyes} {
		*list = guarded(*list)
	}
	generators := make([][]int, len(x.generators), len(x.generators)+1)
	for i, p := range x.generators {
		generators[i] = guarded(p)
	}
	generators[:len(generators)+1][len(generators)] = []int{-77}
	x.generators = generators
	x.word = append(slices.Clone(x.word), [2]int{-77, -78})[:len(x.word)]
	return x
}

// isUnchanged compares the arguments, and what lies beyond their lengths, with what they were.
func (x arguments) isUnchanged(before arguments) bool {
	lists := func(x arguments) [][]int {
		return append([][]int{x.a, x.b, x.draws, x.dyes}, x.generators...)
	}
	old := lists(before)
	for i, list := range lists(x) {
		if !slices.Equal(list, old[i]) || !slices.Equal(list[len(list):len(list)+3], []int{-77, -78, -79}) {
			return false
		}
	}
	beyond := x.generators[:len(x.generators)+1][len(x.generators)]
	return slices.Equal(beyond, []int{-77}) && slices.Equal(x.word[:len(x.word)+1], append(slices.Clone(before.word), [2]int{-77, -78}))
}

// overwrite changes all elements of all lists among the results, also beyond their lengths.
func overwrite(calls [][]any) {
	spoil := func(list []int) {
		list = list[:cap(list)]
		for i := range list {
			list[i] = -99
		}
	}
	for _, result := range slices.Concat(calls...) {
		switch list := result.(type) {
		case []int:
			spoil(list)
		case [][]int:
			for _, row := range list {
				spoil(row)
			}
		case [][2]int:
			list = list[:cap(list)]
			for i := range list {
				list[i] = [2]int{-99, -99}
			}
		}
	}
}

// written returns the results in a form that shares nothing with them; nil and empty lists are the same.
func written(calls [][]any) []any {
	var all []any
	for _, result := range slices.Concat(calls...) {
		switch list := result.(type) {
		case []int:
			all = append(all, append([]int{}, list...))
		case [][]int:
			all = append(all, len(list))
			for _, row := range list {
				all = append(all, append([]int{}, row...))
			}
		case [][2]int:
			all = append(all, append([][2]int{}, list...))
		case tally.Int:
			all = append(all, list.String())
		default:
			all = append(all, result)
		}
	}
	return all
}

// P1, R4, R7: no call panics, changes its arguments, or reads or writes beyond their length; calls done again have the same results.
func TestCallsLeaveArguments(t *testing.T) {
	r := newRandom()
	for range 1500 {
		x := someArguments(r)
		want := written(everyCall(x.guarded()))
		again := x.guarded()
		got := everyCall(again)
		if !reflect.DeepEqual(written(got), want) {
			t.Fatalf("not the same again: %v", x)
		}
		overwrite(got)
		if !again.isUnchanged(x) {
			t.Fatalf("changed: %v", x)
		}
		if !reflect.DeepEqual(written(everyCall(x)), want) {
			t.Fatalf("not the same when the results were overwritten: %v", x)
		}
	}
}

// R4: a group keeps none of what New was given, and nothing of what it returned.
func TestGroupsKeepNothing(t *testing.T) {
	r := newRandom()
	for range 500 {
		x := someArguments(r)
		given := x.guarded()
		g, e := perm.New(x.n, given.generators)
		if e != api.OK {
			continue
		}
		before := groupCalls(g, x)
		want := written(before)
		overwrite([][]any{{given.generators}})
		for i := range given.generators {
			given.generators[i] = nil
		}
		overwrite(before)
		if !reflect.DeepEqual(written(groupCalls(g, x)), want) {
			t.Fatalf("not the same when generators and results were overwritten: %v", x)
		}
		word, e := g.Word(x.a)
		if e == api.OK && !g.Spells(word, x.a) {
			t.Fatalf("Spells denies a word when the generators were overwritten: %v", x)
		}
	}
}

// R2: beside an error there are zero values.
func TestNothingBesideErrors(t *testing.T) {
	r := newRandom()
	failed := map[api.Errno]bool{}
	for range 3000 {
		x := someArguments(r)
		if r.IntN(300) == 0 {
			x.n, x.generators = 20, symmetric(20, 0, 20)
			x.a, x.b, x.dyes = r.Perm(20), r.Perm(20), make([]int, 20)
		}
		for _, results := range everyCall(x) {
			last := len(results) - 1
			if e := results[last].(api.Errno); e != api.OK {
				failed[e] = true
				expectError(t, "a call", e, e, results[:last]...)
			}
		}
	}
	for _, e := range []api.Errno{api.ErrArg, api.ErrLong, api.ErrNil, api.ErrNone, api.ErrShape, api.ErrPerm, api.ErrLarge} {
		if !failed[e] {
			t.Errorf("no call returned %d", e)
		}
	}
}

// R4: the lists of one result share nothing, also beyond their lengths.
func TestResultsShareNothing(t *testing.T) {
	g := newGroup(t, 8, wreath(2, 4)...)
	one := newGroup(t, 8, cycled(8, from(0, 3)), cycled(8, from(4, 2)))
	cycles, _ := perm.Cycles([]int{1, 0, 3, 4, 2, 5})
	for _, rows := range [][][]int{g.Strong(), one.Strong(), one.Orbits(), newGroup(t, 5).Orbits(), cycles} {
		for i := range rows {
			want := slices.Clone(rows[(i+1)%len(rows)])
			overwrite([][]any{{rows[i]}})
			if len(rows) > 1 && !slices.Equal(rows[(i+1)%len(rows)], want) {
				t.Errorf("a row of %v changed with another one", rows)
			}
			copy(rows[i], want)
		}
	}
}
