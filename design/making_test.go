package design_test

import (
	"fmt"
	"math"
	"slices"
	"testing"

	"dauber/api"
	"dauber/design"
)

// expectMade checks the parameters of a design by the definition, and that its blocks are ordered as lists.
func expectMade(t *testing.T, what string, blocks [][]int, e api.Errno, want design.Params) {
	t.Helper()
	got, is := parametersOf(want.V, blocks)
	if e != api.OK || !is || got != want {
		t.Errorf("%s: %v, %v, %d; want %v", what, got, is, e, want)
	}
	if !slices.IsSortedFunc(blocks, slices.Compare) {
		t.Errorf("%s: %v are not in order", what, blocks)
	}
	checked, e := design.Check(want.V, blocks)
	if checked != want || e != api.OK {
		t.Errorf("Check of %s: %v, %d; want %v", what, checked, e, want)
	}
}

// P6.2: triples for all numbers of points up to 99 that leave 1 or 3 when divided by 6, and for no others.
func TestTriples(t *testing.T) {
	numbers := append(from(-20, 240), math.MinInt, math.MinInt+7, math.MaxInt, 1<<32+7, 10003)
	for _, v := range numbers {
		what := fmt.Sprintf("Triples(%d)", v)
		blocks, e := design.Triples(v)
		if v >= 7 && v <= 99 && (v%6 == 1 || v%6 == 3) {
			expectMade(t, what, blocks, e, params(v, v*(v-1)/6, (v-1)/2, 3, 1))
		} else {
			expectError(t, what, e, api.ErrNone, blocks)
		}
	}
}

// isPlaneOrder tells the orders from 2 to 13 of which there are fields.
func isPlaneOrder(order int) bool {
	return slices.Contains([]int{2, 3, 4, 5, 7, 8, 9, 11, 13}, order)
}

func orders() []int {
	return append(from(-20, 150), math.MinInt, math.MaxInt, 1<<32+2, 169, 256, 343, 65536, 65537)
}

// P6.2: planes of all orders from 2 to 13 that are those of fields, and of no others; two lines have just one point in common.
func TestPlanes(t *testing.T) {
	for _, order := range orders() {
		what := fmt.Sprintf("Plane(%d)", order)
		lines, e := design.Plane(order)
		if !isPlaneOrder(order) {
			expectError(t, what, e, api.ErrNone, lines)
			continue
		}
		v := order*order + order + 1
		expectMade(t, what, lines, e, params(v, v, order+1, order+1, 1))
		for i, a := range lines {
			for _, b := range lines[:i] {
				if common(a, b) != 1 {
					t.Errorf("%s: the lines %v and %v have %d points in common", what, a, b, common(a, b))
				}
			}
		}
	}
}

// common returns how many numbers are in both lists.
func common(a, b []int) int {
	return len(slices.DeleteFunc(slices.Clone(a), func(x int) bool { return !slices.Contains(b, x) }))
}

// P6.2: difference sets of the same orders.
func TestSinger(t *testing.T) {
	for _, order := range orders() {
		what := fmt.Sprintf("Singer(%d)", order)
		d, e := design.Singer(order)
		if !isPlaneOrder(order) {
			expectError(t, what, e, api.ErrNone, d)
			continue
		}
		v := order*order + order + 1
		l, is := isDifference(v, d)
		if e != api.OK || !is || l != 1 || len(d) != order+1 || !slices.IsSorted(d) || d[0] != 0 || d[1] != 1 {
			t.Errorf("%s: %v, %d", what, d, e)
		}
		l, is = design.IsDifference(v, d)
		if l != 1 || !is {
			t.Errorf("IsDifference of %s: %d, %v", what, l, is)
		}
		blocks, e := design.Develop(v, d)
		slices.SortFunc(blocks, slices.Compare)
		expectMade(t, "Develop of "+what, blocks, e, params(v, v, order+1, order+1, 1))
	}
}
