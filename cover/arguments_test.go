package cover_test

import (
	"math"
	"math/rand/v2"
	"reflect"
	"slices"
	"testing"

	"dauber/api"
	"dauber/cover"
)

// arguments are what all calls of the package take.
type arguments struct {
	rows, columns []int
	gap, most     int
	wishes        [][]int
	problem       cover.Problem
	nodes         []cover.Node
	matrix        [][]int64
	parts         []cover.Part
	seed          uint64
	tickets       []cover.Ticket
}

// everyCall makes all calls, and returns the results of each of them: the last one is the error, or whether there are others.
func everyCall(x arguments) [][]any {
	var calls [][]any
	keep := func(results ...any) { calls = append(calls, results) }
	table, e := cover.Table(x.rows, x.columns)
	keep(table, e)
	gap, is := cover.Gap(x.rows, x.columns)
	keep(gap, is)
	keep(cover.IsGap(x.rows, x.columns, x.gap))
	pairing, e := cover.Pairing(x.wishes)
	keep(pairing, e)
	violator, is := cover.Violator(x.wishes)
	keep(violator, is)
	keep(cover.Check(x.problem))
	first, e := cover.First(x.problem)
	keep(first, e)
	all, e := cover.All(x.problem, x.most)
	keep(all, e)
	count, e := cover.Count(x.problem, x.most)
	keep(count, e)
	nodes, is := cover.Refute(x.problem)
	keep(nodes, is)
	keep(cover.Refutes(x.problem, x.nodes))
	parts, e := cover.Decompose(x.matrix)
	keep(parts, e)
	keep(cover.Composes(x.matrix, x.parts))
	keep(cover.Strip(x.seed), true)
	strip, e := cover.Complete(x.tickets)
	keep(cover.IsStrip(strip))
	keep(cover.IsTicket(strip[5]))
	keep(strip, e)
	return calls
}

// wild returns a number out of every range, or at its ends.
func wild(r *rand.Rand) int {
	return []int{-1, 0, 12, 13, 32, 33, 63, 64, 65, 1000, 1000001, math.MaxInt, math.MinInt}[r.IntN(13)]
}

// someArguments are valid or not.
func someArguments(r *rand.Rand) arguments {
	x := arguments{
		gap:     r.IntN(9) - 2,
		most:    []int{1, 2, 3, 1000, 1001, 1000000, wild(r)}[r.IntN(7)],
		wishes:  someWishes(r, r.IntN(6), r.IntN(7)+1, 4),
		problem: someProblem(r),
		matrix:  someMatrix(r, r.IntN(5), 4, 5),
		seed:    r.Uint64(),
		tickets: someTickets(r, r.IntN(4)),
	}
	x.rows, x.columns = sumsOf(r, r.IntN(6), r.IntN(6), 5)
	x.nodes = someNodes(r, x.problem)
	x.parts, _ = cover.Decompose(x.matrix)
	if r.IntN(3) > 0 {
		return x
	}
	for _, list := range slices.Concat([][]int{x.rows, x.columns}, x.wishes, x.problem.Options) {
		if len(list) > 0 && r.IntN(4) == 0 {
			list[r.IntN(len(list))] = wild(r)
		}
	}
	for _, row := range x.matrix {
		if r.IntN(4) == 0 {
			row[r.IntN(len(row))] = int64(wild(r))
		}
	}
	for i := range x.parts {
		if r.IntN(4) == 0 {
			x.parts[i].Weight = int64(wild(r))
			x.parts[i].Perm[0] = wild(r)
		}
	}
	for i := range x.tickets {
		if r.IntN(4) == 0 {
			x.tickets[i][r.IntN(3)][r.IntN(9)] = wild(r)
		}
	}
	x.nodes = spoil(r, x.nodes, x.problem.Items)
	return x.oversized(r)
}

// oversized makes some arguments too long, or of a wrong shape.
func (x arguments) oversized(r *rand.Rand) arguments {
	switch r.IntN(8) {
	case 0:
		x.rows = repeated(1, 32+r.IntN(2))
	case 1:
		x.columns = repeated(1, 32+r.IntN(2))
	case 2:
		x.wishes = append(x.wishes, make([][]int, 65)...)
	case 3:
		x.problem.Options = append(x.problem.Options, make([][]int, 490)...)
	case 4:
		x.problem.Items = wild(r)
	case 5:
		x.matrix = append(x.matrix, []int64{})
	case 6:
		x.matrix = filled(13, 1)
	case 7:
		x.tickets = append(x.tickets, make([]cover.Ticket, 6)...)
	}
	return x
}

// guarded returns a copy of the list, with an element beyond its length that must stay.
func guarded[T any](list []T, guard T) []T {
	return append(slices.Clone(list), guard)[:len(list)]
}

func guardedRows[T any](rows [][]T, guard T) [][]T {
	copied := guarded(rows, []T{guard})
	for i, row := range copied {
		copied[i] = guarded(row, guard)
	}
	return copied
}

func (x arguments) guarded() arguments {
	x.rows, x.columns = guarded(x.rows, -77), guarded(x.columns, -77)
	x.wishes = guardedRows(x.wishes, -77)
	x.problem.Options = guardedRows(x.problem.Options, -77)
	x.matrix = guardedRows(x.matrix, -77)
	x.nodes = guarded(x.nodes, cover.Node{Item: -77})
	for i := range x.nodes {
		x.nodes[i].Next = guarded(x.nodes[i].Next, -77)
	}
	x.parts = guarded(x.parts, cover.Part{Weight: -77})
	for i := range x.parts {
		x.parts[i].Perm = guarded(x.parts[i].Perm, -77)
	}
	x.tickets = guarded(x.tickets, cover.Ticket{{-77}})
	return x
}

// whole returns all arguments with what lies beyond their lengths.
func (x arguments) whole() []any {
	all := []any{beyond(x.rows), beyond(x.columns), beyond(x.nodes), beyond(x.parts), beyond(x.tickets)}
	for _, rows := range [][][]int{beyond(x.wishes), beyond(x.problem.Options)} {
		for _, row := range rows[:len(rows)-1] {
			all = append(all, beyond(row))
		}
		all = append(all, rows[len(rows)-1])
	}
	for _, row := range x.matrix {
		all = append(all, beyond(row))
	}
	for _, node := range x.nodes {
		all = append(all, beyond(node.Next))
	}
	for _, part := range x.parts {
		all = append(all, beyond(part.Perm))
	}
	return all
}

// beyond returns a guarded list with its guard.
func beyond[T any](list []T) []T {
	return list[:len(list)+1]
}

// spoilAll changes all elements of a list, also beyond its length.
func spoilAll[T any](list []T, x T) {
	list = list[:cap(list)]
	for i := range list {
		list[i] = x
	}
}

// overwrite changes all elements of all lists among the results.
func overwrite(calls [][]any) {
	for _, result := range slices.Concat(calls...) {
		switch list := result.(type) {
		case []int:
			spoilAll(list, -99)
		case [][]int:
			for _, row := range list {
				spoilAll(row, -99)
			}
			spoilAll(list, nil)
		case []cover.Node:
			for _, node := range list {
				spoilAll(node.Next, -99)
			}
			spoilAll(list, cover.Node{Item: -99})
		case []cover.Part:
			for _, part := range list {
				spoilAll(part.Perm, -99)
			}
			spoilAll(list, cover.Part{Weight: -99})
		}
	}
}

// written returns the results in a form that shares nothing with them; nil and empty lists are the same.
func written(calls [][]any) []any {
	var all []any
	for _, result := range slices.Concat(calls...) {
		switch list := result.(type) {
		case []int:
			all = append(all, append([]int{}, list...))
		case [][]int:
			all = append(all, len(list))
			for _, row := range list {
				all = append(all, append([]int{}, row...))
			}
		case []cover.Node:
			all = append(all, len(list))
			for _, node := range list {
				all = append(all, node.Item, append([]int{}, node.Next...))
			}
		case []cover.Part:
			all = append(all, len(list))
			for _, part := range list {
				all = append(all, part.Weight, append([]int{}, part.Perm...))
			}
		default:
			all = append(all, result)
		}
	}
	return all
}

// P1, R4, R7: no call panics, changes its arguments, or reads or writes beyond their length; calls done again have the same results.
func TestCallsLeaveArguments(t *testing.T) {
	r := newRandom()
	for range 3000 {
		x := someArguments(r)
		given := x.guarded()
		before := x.guarded().whole()
		got := everyCall(given)
		want := written(got)
		overwrite(got)
		if !reflect.DeepEqual(given.whole(), before) {
			t.Fatalf("changed: %v", x)
		}
		if !reflect.DeepEqual(written(everyCall(given)), want) {
			t.Fatalf("not the same when the results were overwritten: %v", x)
		}
		if !reflect.DeepEqual(written(everyCall(x)), want) {
			t.Fatalf("not the same with other capacities: %v", x)
		}
	}
}

// R2: beside an error, and beside false, there are zero values.
func TestNothingBesideErrors(t *testing.T) {
	r := newRandom()
	failed := map[api.Errno]bool{}
	for range 5000 {
		for _, results := range everyCall(someArguments(r)) {
			last := len(results) - 1
			switch x := results[last].(type) {
			case api.Errno:
				if x != api.OK {
					failed[x] = true
					expectError(t, "a call", x, x, results[:last]...)
				}
			case bool:
				if !x {
					expectNothing(t, "a call that found nothing", results[:last]...)
				}
			}
		}
	}
	for _, e := range []api.Errno{api.ErrArg, api.ErrLong, api.ErrNone, api.ErrShape, api.ErrSums, api.ErrMore} {
		if !failed[e] {
			t.Errorf("no call returned %d", e)
		}
	}
}

// R4: the lists of one result share nothing, also beyond their lengths.
func TestResultsShareNothing(t *testing.T) {
	table, _ := cover.Table([]int{2, 2, 1, 0}, []int{2, 2, 1})
	all, _ := cover.All(singles(4, 3), 20)
	var nexts, perms [][]int
	nodes, _ := cover.Refute(pairs(9))
	for _, node := range nodes {
		nexts = append(nexts, node.Next)
	}
	parts, _ := cover.Decompose(someMatrix(newRandom(), 6, 10, 9))
	for _, part := range parts {
		perms = append(perms, part.Perm)
	}
	for _, rows := range [][][]int{table, all, nexts, perms} {
		if len(rows) < 2 {
			t.Errorf("too few lists: %v", rows)
		}
		for i := range rows {
			var want [][]int
			for _, row := range rows {
				want = append(want, slices.Clone(row))
			}
			spoilAll(rows[i], -99)
			copy(rows[i], want[i])
			if !sameRows(rows, want) {
				t.Fatalf("lists changed with the list %d", i)
			}
		}
	}
}
