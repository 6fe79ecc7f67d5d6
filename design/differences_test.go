package design_test

import (
	"fmt"
	"math"
	"slices"
	"testing"

	"dauber/api"
	"dauber/design"
)

// P6.3: all sets of numbers modulo 3 to 15, in any order, and some lists that are none.
func TestSmallDifferenceSets(t *testing.T) {
	r := newRandom()
	found := 0
	for v := 3; v <= 15; v++ {
		for bits := range 1 << v {
			d := slices.DeleteFunc(r.Perm(v), func(x int) bool { return bits>>x&1 == 0 })
			if r.IntN(10) == 0 && len(d) > 0 {
				d[r.IntN(len(d))] = r.IntN(v+2) - 1
			}
			wantL, want := isDifference(v, d)
			l, is := design.IsDifference(v, d)
			if l != wantL || is != want {
				t.Errorf("IsDifference(%d, %v): %d, %v; want %d, %v", v, d, l, is, wantL, want)
			}
			if want {
				found++
			}
		}
	}
	if found < 200 {
		t.Errorf("only %d difference sets", found)
	}
}

// P6.3: known difference sets, and lists that are none, also for the greatest numbers of points.
func TestDifferenceSets(t *testing.T) {
	nearly := squares(9967)
	nearly[0] = 0 // instead of 1
	for _, x := range []struct {
		what string
		v    int
		d    []int
		l    int
	}{
		{"the example", 7, []int{0, 1, 3}, 1},
		{"the example in another order", 7, []int{3, 0, 1}, 1},
		{"its complement", 7, []int{6, 5, 4, 2}, 2},
		{"order 3", 13, []int{0, 1, 3, 9}, 1},
		{"a biplane", 37, []int{1, 7, 9, 10, 12, 16, 26, 33, 34}, 2},
		{"two of 3", 3, []int{0, 1}, 1},
		{"two of 3", 3, []int{2, 0}, 1},
		{"all but one of 4", 4, []int{0, 1, 3}, 2},
		{"squares modulo 9967", 9967, squares(9967), 2491},
		{"all but one of 9999", 9999, from(0, 9998), 9997},
		{"all but one of 10000", 10000, from(1, 9999), 9998},
		{"all but one of 10001", 10001, from(0, 10000), 0},
		{"all but two of 10000", 10000, from(1, 9998), 0},
		{"the squares modulo 9967, with 0 instead of 1", 9967, nearly, 0},
		{"the squares modulo a prime that leaves 1 when divided by 4", 9973, squares(9973), 0},
		{"nothing", 7, nil, 0},
		{"nothing of 3", 3, []int{}, 0},
		{"one", 7, []int{3}, 0},
		{"one of 3", 3, []int{0}, 0},
		{"all", 7, from(0, 7), 0},
		{"all of 3", 3, from(0, 3), 0},
		{"more than all", 3, []int{0, 1, 2, 0}, 0},
		{"a number twice", 7, []int{0, 1, 1}, 0},
		{"a number twice, in the place of the last one", 7, []int{0, 1, 3, 3}, 0},
		{"a number too great", 7, []int{0, 1, 7}, 0},
		{"the same modulo 7", 7, []int{0, 1, 10}, 0},
		{"a negative number", 7, []int{0, 1, -4}, 0},
		{"the greatest number", 7, []int{0, 1, math.MaxInt}, 0},
		{"the least number", 7, []int{0, 1, math.MinInt}, 0},
		{"differences that do not occur", 7, []int{0, 1, 2}, 0},
		{"differences that do not occur equally often", 8, []int{0, 1, 3}, 0},
		{"as many differences as numbers, not equally often", 13, []int{0, 1, 3, 8}, 0},
		{"2 points", 2, []int{0}, 0},
		{"2 points, and both of them", 2, []int{0, 1}, 0},
		{"1 point", 1, nil, 0},
		{"no points", 0, nil, 0},
		{"-7 points", -7, []int{0, 1, 3}, 0},
		{"the least number of points", math.MinInt, []int{0, 1, 3}, 0},
		{"the greatest number of points", math.MaxInt, []int{0, 1, 3}, 0},
		{"a long list", 10000, make([]int, 1<<20), 0},
	} {
		l, is := design.IsDifference(x.v, x.d)
		if l != x.l || is != (x.l > 0) {
			t.Errorf("IsDifference of %s: %d, %v; want %d", x.what, l, is, x.l)
		}
	}
}

// P6.3: developments of all lists of at least one number, also of those that are no difference sets.
func TestDevelop(t *testing.T) {
	r := newRandom()
	for v := 3; v <= 200; v++ {
		for _, k := range []int{1, 2, v - 1, v, r.IntN(v) + 1} {
			d := r.Perm(v)[:k]
			blocks, e := design.Develop(v, d)
			expectRows(t, fmt.Sprintf("Develop(%d, %v)", v, d), blocks, e, developed(v, d...))
		}
	}
	blocks, e := design.Develop(7, []int{3, 1, 0})
	expectRows(t, "Develop", blocks, e, [][]int{{0, 1, 3}, {1, 2, 4}, {2, 3, 5}, {3, 4, 6}, {0, 4, 5}, {1, 5, 6}, {0, 2, 6}})
}

// P6.3: lists that are not developed.
func TestDevelopErrors(t *testing.T) {
	for _, x := range []struct {
		v int
		d []int
	}{
		{7, nil},
		{7, []int{}},
		{3, nil},
		{200, nil},
		{2, []int{0}},
		{2, []int{0, 1}},
		{1, []int{0}},
		{0, nil},
		{-7, []int{0, 1, 3}},
		{math.MinInt, []int{0}},
		{math.MaxInt, []int{0}},
		{201, []int{0}},
		{201, from(0, 201)},
		{7, []int{0, 1, 1}},
		{7, []int{3, 0, 3}},
		{7, []int{7}},
		{7, []int{-1}},
		{7, []int{0, 1, 8}},
		{7, []int{0, math.MinInt}},
		{7, []int{math.MaxInt, 0}},
		{7, append(from(0, 7), 0)},
		{7, append(from(0, 7), 7)},
		{200, append(from(0, 200), 5)},
		{200, make([]int, 1<<20)},
	} {
		blocks, e := design.Develop(x.v, x.d)
		expectError(t, fmt.Sprintf("Develop of %d points and %d numbers", x.v, len(x.d)), e, api.ErrArg, blocks)
	}
}

// P6.8: the development of a difference set is a symmetric design.
func TestDevelopmentsOfDifferenceSets(t *testing.T) {
	designs := 0
	for v := 3; v <= 21; v++ {
		for k := 2; k < min(v, 6); k++ {
			for _, d := range subsets(v, k) {
				l, is := design.IsDifference(v, d)
				blocks, _ := design.Develop(v, d)
				p, e := design.Check(v, blocks)
				if is && (p != params(v, v, k, k, l) || e != api.OK) {
					t.Errorf("the development of %v modulo %d: %v, %d; want L = %d", d, v, p, e, l)
				}
				if !is && e != api.ErrDesign {
					t.Errorf("the development of %v modulo %d: %v, %d", d, v, p, e)
				}
				if is {
					designs++
				}
			}
		}
	}
	if designs < 150 {
		t.Errorf("only %d difference sets", designs)
	}
}
