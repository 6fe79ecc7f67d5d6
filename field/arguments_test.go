package field_test

import (
	"math"
	"math/rand/v2"
	"reflect"
	"slices"
	"testing"

	"dauber/api"
	"dauber/field"
	"dauber/tally"
)

// everyResult makes all calls that take lists, and returns all that they return.
func everyResult(f *field.Field, p, q []int, m [][]int, b, w []int, x int) []any {
	var all []any
	keep := func(results ...any) { all = append(all, results...) }
	keep(f.Check(p))
	v, e := f.Value(p, x)
	keep(v, e)
	list, e := f.Product(p, q)
	keep(list, e)
	list, rest, e := f.Divide(p, q)
	keep(list, rest, e)
	list, e = f.Common(p, q)
	keep(list, e)
	list, e = f.Through(p, q)
	keep(list, e)
	list, e = f.Roots(p)
	keep(list, e)
	is, e := f.Irreducible(p)
	keep(is, e)
	rows, e := f.Echelon(m)
	keep(rows, e)
	list, e = f.Solve(m, b)
	keep(list, e)
	list, is = f.Deny(m, b)
	keep(list, is)
	keep(f.Denies(m, b, w))
	keep(f.Minimal(x), f.Modulus())
	return all
}

// everyElementResult makes all calls that take elements.
func everyElementResult(f *field.Field, a, b int, n int64) []any {
	quotient, e1 := f.Div(a, b)
	power, e2 := f.Pow(a, n)
	log, e3 := f.Log(a)
	root, e4 := f.Root(a)
	p, k := f.Prime()
	return []any{f.Order(), p, k, f.Generator(), f.Add(a, b), f.Sub(a, b), f.Mul(a, b), quotient, e1, power, e2, log, e3, f.Trace(a), f.Norm(a), root, e4}
}

// guarded returns a copy of the list, with numbers beyond its length that must stay.
func guarded(list []int) []int {
	return append(slices.Clone(list), -77, -78, -79)[:len(list)]
}

func guards(list []int) []int {
	return list[len(list) : len(list)+3]
}

// someList returns a list that may be valid or not.
func someList(r *rand.Rand, q int) []int {
	list := make([]int, r.IntN(5))
	for i := range list {
		list[i] = r.IntN(q+2) - 1
		if r.IntN(4) > 0 {
			list[i] = r.IntN(q)
		}
	}
	return list
}

func someMatrix(r *rand.Rand, q int) [][]int {
	m := make([][]int, r.IntN(5))
	n := r.IntN(4)
	for i := range m {
		m[i] = anyList(r, q, n)
		if r.IntN(12) == 0 {
			m[i] = someList(r, q)
		}
	}
	return m
}

// overwrite changes all elements of all lists among the results.
func overwrite(results []any) {
	spoil := func(list []int) {
		list = list[:cap(list)]
		for i := range list {
			list[i] = -99
		}
	}
	for _, result := range results {
		switch list := result.(type) {
		case []int:
			spoil(list)
		case [][]int:
			for _, row := range list {
				spoil(row)
			}
		}
	}
}

// copyOf returns a copy of the results that shares nothing with them; nil and empty lists are the same.
func copyOf(results []any) []any {
	var all []any
	for _, result := range results {
		switch list := result.(type) {
		case []int:
			all = append(all, append([]int{}, list...))
		case [][]int:
			for _, row := range list {
				all = append(all, append([]int{}, row...))
			}
		default:
			all = append(all, result)
		}
	}
	return all
}

// P1, R4, R7: no call panics, changes its arguments, or reads or writes beyond their length; results share nothing; calls done again have the same results.
func TestCallsLeaveArguments(t *testing.T) {
	r := newRandom()
	for range 6000 {
		orders := []int{2, 3, 4, 5, 8, 9, 49}
		order := orders[r.IntN(len(orders))]
		f := fieldOf(order)
		lists := [][]int{someList(r, order), someList(r, order), someList(r, order), someList(r, order)}
		m, x := someMatrix(r, order), int(r.Int64())
		if r.IntN(2) == 0 {
			lists[2], lists[3] = anyList(r, order, len(m)), anyList(r, order, len(m))
		}
		want := copyOf(everyResult(f, lists[0], lists[1], m, lists[2], lists[3], x))
		var args [][]int
		for _, list := range append(slices.Clone(m), lists...) {
			args = append(args, guarded(list))
		}
		rows, rest := args[:len(m)], args[len(m):]
		got := everyResult(f, rest[0], rest[1], rows, rest[2], rest[3], x)
		if !reflect.DeepEqual(copyOf(got), want) {
			t.Fatalf("not the same again: %v, %v", m, lists)
		}
		overwrite(got)
		for i, list := range append(slices.Clone(m), lists...) {
			if !slices.Equal(args[i], list) || !slices.Equal(guards(args[i]), []int{-77, -78, -79}) {
				t.Fatalf("changed: %v", list)
			}
		}
		if !reflect.DeepEqual(copyOf(everyResult(f, lists[0], lists[1], m, lists[2], lists[3], x)), want) {
			t.Fatalf("not the same when the results were overwritten: %v, %v", m, lists)
		}
	}
}

// R4: the lists of one result share nothing, also beyond their lengths.
func TestResultsShareNothing(t *testing.T) {
	f := fieldOf(5)
	quotient, rest, _ := f.Divide([]int{1, 2, 3, 4, 1}, []int{1, 1, 2})
	want := slices.Clone(rest)
	overwrite([]any{quotient})
	expectList(t, "the rest when the quotient was overwritten", rest, api.OK, want)
	quotient, rest, _ = f.Divide([]int{1, 2, 3, 4, 1}, []int{1, 1, 2})
	want = slices.Clone(quotient)
	overwrite([]any{rest})
	expectList(t, "the quotient when the rest was overwritten", quotient, api.OK, want)
	rows, _ := f.Echelon([][]int{{1, 2, 0}, {3, 4, 4}})
	want = slices.Clone(rows[1])
	overwrite([]any{rows[0]})
	expectList(t, "a row when another one was overwritten", rows[1], api.OK, want)
}

// P1: any numbers as elements.
func TestAnyNumbers(t *testing.T) {
	numbers := []int{math.MinInt, math.MinInt + 1, -65537, -3, -2, -1, 0, 1, 2, 3, 5, 9, 65535, 65536, math.MaxInt - 1, math.MaxInt}
	for _, q := range []int{2, 3, 4, 5, 9, 65521, 65536} {
		f := fieldOf(q)
		for _, a := range numbers {
			for _, b := range numbers {
				first := everyElementResult(f, a, b, int64(b))
				if !reflect.DeepEqual(first, everyElementResult(f, a, b, int64(b))) {
					t.Errorf("%d: not the same again: %d, %d", q, a, b)
				}
			}
		}
	}
}

// R7: two fields of the same order are the same, and independent of the order of the calls.
func TestFieldsAreTheSame(t *testing.T) {
	for _, q := range []int{7, 8, 9, 257} {
		f, g := fieldOf(q), fieldOf(q)
		for a := q - 1; a >= 0; a-- {
			g.Log(a)
			g.Minimal(a)
		}
		for a := range q {
			if !reflect.DeepEqual(everyElementResult(f, a, 3, 5), everyElementResult(g, a, 3, 5)) {
				t.Errorf("%d: %d", q, a)
			}
		}
	}
}

// The last paragraph of the promises: calls of a nil field with an error return ErrNil, the others 0, false and empty lists.
func TestNilField(t *testing.T) {
	var f *field.Field
	p, k := f.Prime()
	w, is := f.Deny([][]int{{0}}, []int{1})
	expectError(t, "calls without an error", api.OK, api.OK, f.Order(), p, k, f.Modulus(), f.Generator(), f.Add(1, 2), f.Sub(1, 2), f.Mul(1, 2), f.Trace(1), f.Norm(1), f.Minimal(1), w, is, f.Denies([][]int{{0}}, []int{1}, []int{1}))
	long := make([]int, 201)
	for _, list := range [][]int{nil, {1}, {0}, {-1}, long} {
		for _, a := range []int{0, 1, -1} {
			n, e := f.Div(1, a)
			expectError(t, "Div", e, api.ErrNil, n)
			n, e = f.Pow(a, -1)
			expectError(t, "Pow", e, api.ErrNil, n)
			n, e = f.Log(a)
			expectError(t, "Log", e, api.ErrNil, n)
			n, e = f.Root(a)
			expectError(t, "Root", e, api.ErrNil, n)
			n, e = f.Value(list, a)
			expectError(t, "Value", e, api.ErrNil, n)
		}
		expectError(t, "Check", f.Check(list), api.ErrNil)
		product, e := f.Product(list, list)
		expectError(t, "Product", e, api.ErrNil, product)
		quotient, rest, e := f.Divide(list, nil)
		expectError(t, "Divide", e, api.ErrNil, quotient, rest)
		common, e := f.Common(list, list)
		expectError(t, "Common", e, api.ErrNil, common)
		through, e := f.Through(list, []int{1})
		expectError(t, "Through", e, api.ErrNil, through)
		roots, e := f.Roots(list)
		expectError(t, "Roots", e, api.ErrNil, roots)
		is, e := f.Irreducible(list)
		expectError(t, "Irreducible", e, api.ErrNil, is)
		m := [][]int{list, nil}
		rows, e := f.Echelon(m)
		expectError(t, "Echelon", e, api.ErrNil, rows)
		x, e := f.Solve(m, list)
		expectError(t, "Solve", e, api.ErrNil, x)
		if w, is := f.Deny(m, list); is || len(w) > 0 || f.Denies(m, list, list) {
			t.Errorf("Deny of a nil field: %v, %t", w, is)
		}
	}
	n, e := field.Irreducibles(2, 3)
	if e != api.OK || n.Cmp(tally.Of(2)) != 0 {
		t.Errorf("Irreducibles(2, 3): %s, %d", n, e)
	}
}
