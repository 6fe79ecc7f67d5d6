package design_test

import (
	"math"
	"math/rand/v2"
	"reflect"
	"slices"
	"testing"

	"dauber/api"
	"dauber/design"
	"dauber/tally"
)

// arguments are what all calls of the package take.
type arguments struct {
	v, k, l, order, place int
	blocks                [][]int
	d                     []int
	a, b                  int64
}

// everyCall makes all calls, and returns the results of each of them: the last one is the error, or whether there are others.
func everyCall(x arguments) [][]any {
	var calls [][]any
	keep := func(results ...any) { calls = append(calls, results) }
	p, e := design.Check(x.v, x.blocks)
	keep(p, e)
	for _, call := range []func(int, [][]int) ([][]int, api.Errno){design.Dual, design.Complement, design.Resolve} {
		rows, e := call(x.v, x.blocks)
		keep(rows, e)
	}
	rows, e := design.Triples(x.v)
	keep(rows, e)
	rows, e = design.Plane(x.order)
	keep(rows, e)
	list, e := design.Singer(x.order)
	keep(list, e)
	l, is := design.IsDifference(x.v, x.d)
	keep(l, is)
	rows, e = design.Develop(x.v, x.d)
	keep(rows, e)
	verdict, e := design.Judge(x.v, x.k, x.l)
	keep(verdict, e)
	s, e := design.Symbol(x.a, x.b, x.place)
	keep(s, e)
	list, e = design.Places(x.a, x.b)
	keep(list, e)
	n1, n2, n3, e := design.Solve(x.a, x.b)
	keep(n1, n2, n3, e)
	place, is := design.Refuse(x.a, x.b)
	keep(place, is)
	return calls
}

// wild returns a number out of every range, or at its ends.
func wild(r *rand.Rand) int {
	list := []int{-1, 0, 1, 2, 3, 13, 14, 64, 65, 99, 100, 200, 201, 10000, 10001, 1000000, 1000001, math.MaxInt, math.MinInt}
	return list[r.IntN(len(list))]
}

// someArguments are valid or not.
func someArguments(r *rand.Rand, designs []sample) arguments {
	s := designs[r.IntN(len(designs))]
	x := arguments{
		v:      s.v,
		k:      s.params.K,
		l:      s.params.L,
		order:  r.IntN(8),
		place:  []int{-1, 2, 3, 5, 7, 999983}[r.IntN(6)],
		blocks: mixed(r, s.v, s.blocks),
		d:      slices.Clone(s.blocks[0]),
		a:      someCoefficient(r),
		b:      someCoefficient(r),
	}
	if r.IntN(3) > 0 {
		return x
	}
	for _, number := range []*int{&x.v, &x.k, &x.l, &x.order, &x.place, &x.d[r.IntN(len(x.d))]} {
		if r.IntN(4) == 0 {
			*number = wild(r)
		}
	}
	for _, number := range []*int64{&x.a, &x.b} {
		if r.IntN(4) == 0 {
			*number = int64(wild(r))
		}
	}
	switch r.IntN(5) {
	case 0:
		x.blocks = append(x.blocks, make([][]int, 2000)...)
	case 1:
		x.blocks = nil
	case 2:
		x.blocks[r.IntN(len(x.blocks))][r.IntN(len(x.d))] = wild(r)
	case 3:
		x.blocks = spoiled(r, s.v, x.blocks)
	}
	return x
}

// guarded returns the arguments with an element beyond the length of each list that must stay.
func (x arguments) guarded() arguments {
	x.d = append(slices.Clone(x.d), -77)[:len(x.d)]
	x.blocks = append(slices.Clone(x.blocks), []int{-77})[:len(x.blocks)]
	for i, block := range x.blocks {
		x.blocks[i] = append(slices.Clone(block), -77)[:len(block)]
	}
	return x
}

// whole returns the lists of guarded arguments with what lies beyond their lengths.
func (x arguments) whole() [][]int {
	all := [][]int{x.d[:len(x.d)+1]}
	for _, block := range x.blocks {
		all = append(all, block[:len(block)+1])
	}
	return append(all, x.blocks[:len(x.blocks)+1][len(x.blocks)])
}

// spoil changes all elements of a list, also beyond its length.
func spoil(list []int) {
	list = list[:cap(list)]
	for i := range list {
		list[i] = -99
	}
}

// overwrite changes all elements of all lists among the results.
func overwrite(calls [][]any) {
	for _, result := range slices.Concat(calls...) {
		switch list := result.(type) {
		case []int:
			spoil(list)
		case [][]int:
			for _, row := range list {
				spoil(row)
			}
			clear(list[:cap(list)])
		}
	}
}

// written returns the results in a form that shares nothing with them; nil and empty lists are the same.
func written(calls [][]any) []any {
	var all []any
	for _, result := range slices.Concat(calls...) {
		switch x := result.(type) {
		case []int:
			all = append(all, append([]int{}, x...))
		case [][]int:
			all = append(all, len(x))
			for _, row := range x {
				all = append(all, append([]int{}, row...))
			}
		case tally.Int:
			all = append(all, x.String())
		case design.Verdict:
			all = append(all, x.Code, x.Place, x.X.String(), x.Y.String(), x.Z.String())
		default:
			all = append(all, x)
		}
	}
	return all
}

// P1, R4, R7: no call panics, changes its arguments, or reads or writes beyond their length; calls done again have the same results.
func TestCallsLeaveArguments(t *testing.T) {
	r, designs := newRandom(), samples()
	for range 2000 {
		x := someArguments(r, designs)
		given := x.guarded()
		before := x.guarded().whole()
		got := everyCall(given)
		want := written(got)
		overwrite(got)
		if !sameRows(given.whole(), before) {
			t.Fatalf("changed: %v", x)
		}
		if !reflect.DeepEqual(written(everyCall(given)), want) {
			t.Fatalf("not the same when the results were overwritten: %v", x)
		}
		if !reflect.DeepEqual(written(everyCall(x)), want) {
			t.Fatalf("not the same with other capacities: %v", x)
		}
	}
}

// R2: beside an error, and beside false, there are zero values.
func TestNothingBesideErrors(t *testing.T) {
	r, designs := newRandom(), samples()
	failed := map[api.Errno]bool{}
	for range 3000 {
		x := someArguments(r, designs)
		for _, results := range everyCall(x) {
			last := len(results) - 1
			switch e := results[last].(type) {
			case api.Errno:
				if e != api.OK {
					failed[e] = true
					expectNothing(t, "a call with an error", results[:last]...)
				}
			case bool:
				if !e {
					expectNothing(t, "a call that found nothing", results[:last]...)
				}
			}
		}
	}
	for _, e := range []api.Errno{api.ErrArg, api.ErrLong, api.ErrNone, api.ErrZero, api.ErrDesign} {
		if !failed[e] {
			t.Errorf("no call returned %d", e)
		}
	}
}

// R4: the lists of one result share nothing, also beyond their lengths.
func TestResultsShareNothing(t *testing.T) {
	r := newRandom()
	for _, s := range samples() {
		blocks := mixed(r, s.v, s.blocks)
		dual, _ := design.Dual(s.v, blocks)
		others, _ := design.Complement(s.v, blocks)
		classes, _ := design.Resolve(s.v, blocks)
		triples, _ := design.Triples(9)
		lines, _ := design.Plane(3)
		development, _ := design.Develop(s.v, blocks[0])
		for _, rows := range [][][]int{dual, others, classes, triples, lines, development} {
			var want [][]int
			for _, row := range rows {
				want = append(want, slices.Clone(row))
			}
			for i, row := range rows {
				spoil(row)
				copy(row, want[i])
				if !sameRows(rows, want) {
					t.Fatalf("%s: lists changed with the list %d", s.name, i)
				}
			}
		}
	}
}
