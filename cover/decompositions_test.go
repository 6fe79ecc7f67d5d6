package cover_test

import (
	"fmt"
	"math"
	"slices"
	"testing"

	"dauber/api"
	"dauber/cover"
)

// expectDecomposition checks Decompose of a valid matrix, and returns what it is.
func expectDecomposition(t *testing.T, m [][]int64) []cover.Part {
	t.Helper()
	l, e := cover.Decompose(m)
	n := len(m)
	if e != api.OK || !composes(m, l) || !cover.Composes(m, l) {
		t.Errorf("Decompose(%v): %v, %d", m, l, e)
	}
	if len(l) > (n-1)*(n-1)+1 {
		t.Errorf("Decompose(%v): %d parts are too many", m, len(l))
	}
	// P5.9: the weights are together the sum of a row.
	var weights, row int64
	for _, part := range l {
		weights += part.Weight
	}
	if n > 0 {
		for _, x := range m[0] {
			row += x
		}
	}
	if weights != row {
		t.Errorf("Decompose(%v): the weights are together %d, a row %d", m, weights, row)
	}
	return l
}

// filled returns a matrix of n rows with equal elements.
func filled(n int, x int64) [][]int64 {
	m := make([][]int64, n)
	for i := range m {
		m[i] = slices.Repeat([]int64{x}, n)
	}
	return m
}

// changed returns the matrix with another element.
func changed(m [][]int64, i, j int, x int64) [][]int64 {
	other := make([][]int64, len(m))
	for k, row := range m {
		other[k] = slices.Clone(row)
	}
	other[i][j] = x
	return other
}

// diagonal returns the matrix with x where a row and a column have the same number.
func diagonal(n int, x int64) [][]int64 {
	m := filled(n, 0)
	for i := range m {
		m[i][i] = x
	}
	return m
}

// P5.5, P5.9: random matrices of all sizes.
func TestDecompositions(t *testing.T) {
	r := newRandom()
	for range 2000 {
		n := r.IntN(13)
		parts := r.IntN(40) + 1
		m := someMatrix(r, n, parts, []int64{1, 2, 20, 1000000 / int64(parts)}[r.IntN(4)])
		expectDecomposition(t, m)
	}
}

// P5.5: sums of so many permutations that the decompositions come near the bound of parts.
func TestDecompositionsOfManyParts(t *testing.T) {
	r := newRandom()
	most := 0
	for range 300 {
		l := expectDecomposition(t, someMatrix(r, 12, 200, 5000))
		most = max(most, len(l))
	}
	if most < 100 {
		t.Errorf("at most %d parts: too few to come near the bound", most)
	}
}

// P5.5: examples, and matrices at the limits.
func TestMatricesAtLimits(t *testing.T) {
	l := expectDecomposition(t, [][]int64{{2, 1}, {1, 2}})
	slices.SortFunc(l, func(a, b cover.Part) int { return int(b.Weight - a.Weight) })
	if len(l) != 2 || l[0].Weight != 2 || !slices.Equal(l[0].Perm, []int{0, 1}) || !slices.Equal(l[1].Perm, []int{1, 0}) {
		t.Errorf("Decompose: %v", l)
	}
	for n := range 13 {
		zeros := expectDecomposition(t, filled(n, 0))
		expectNothing(t, fmt.Sprint("zeros in ", n, " rows"), zeros)
		expectDecomposition(t, filled(n, 1))
		expectDecomposition(t, filled(n, 1000000))
		one := expectDecomposition(t, diagonal(n, 1000000))
		if n > 0 && (len(one) != 1 || one[0].Weight != 1000000) {
			t.Errorf("Decompose of a diagonal: %v", one)
		}
	}
	expectDecomposition(t, [][]int64{{1000000, 0, 1}, {1, 1000000, 0}, {0, 1, 1000000}})
	expectDecomposition(t, [][]int64{{0, 1000000}, {1000000, 0}})
	none, e := cover.Decompose([][]int64{})
	expectError(t, "Decompose of no rows", e, api.OK, none)
}

// P5.5: the first error that P5.5 names decides.
func TestMatrixErrors(t *testing.T) {
	short := filled(3, 1)
	short[2] = short[2][:2]
	long := filled(3, 1)
	long[0] = append(long[0], 0)
	empty := filled(2, 0)
	empty[1] = nil
	for _, x := range []struct {
		what string
		m    [][]int64
		want api.Errno
	}{
		{"13 rows", filled(13, 1), api.ErrShape},
		{"13 rows of zeros", filled(13, 0), api.ErrShape},
		{"13 rows out of range", filled(13, -1), api.ErrShape},
		{"13 empty rows", make([][]int64, 13), api.ErrShape},
		{"many rows", make([][]int64, 1<<20), api.ErrShape},
		{"a short row", short, api.ErrShape},
		{"a long row", long, api.ErrShape},
		{"an empty row", empty, api.ErrShape},
		{"one empty row", [][]int64{{}}, api.ErrShape},
		{"one row of two", [][]int64{{1, 1}}, api.ErrShape},
		{"two rows of one", [][]int64{{1}, {1}}, api.ErrShape},
		{"a row of many", [][]int64{make([]int64, 1<<20)}, api.ErrShape},
		{"a negative element before a short row", changed(short, 0, 0, -1), api.ErrShape},
		{"a large element before a short row", changed(short, 0, 0, 1000001), api.ErrShape},
		{"a negative element", changed(filled(3, 1), 2, 2, -1), api.ErrArg},
		{"a large element", changed(filled(3, 1), 2, 2, 1000001), api.ErrArg},
		{"the least element", changed(filled(3, 1), 1, 0, math.MinInt64), api.ErrArg},
		{"the greatest element", changed(filled(3, 1), 0, 1, math.MaxInt64), api.ErrArg},
		{"right sums out of range", filled(3, -1), api.ErrArg},
		{"right sums that are too large", filled(12, 1000001), api.ErrArg},
		{"one element that is too large", [][]int64{{1000001}}, api.ErrArg},
		{"one negative element", [][]int64{{-1}}, api.ErrArg},
		{"sums by a negative element", [][]int64{{2, -1}, {-1, 2}}, api.ErrArg},
		{"different sums, then a negative element", changed(diagonal(12, 1), 11, 11, -1), api.ErrArg},
		{"different sums", changed(filled(3, 1), 1, 1, 2), api.ErrSums},
		{"different sums in the last row and column", changed(diagonal(12, 1), 11, 11, 2), api.ErrSums},
		{"different rows", [][]int64{{1, 1}, {2, 2}}, api.ErrSums},
		{"different columns", [][]int64{{1, 2}, {1, 2}}, api.ErrSums},
		{"rows as they should be", [][]int64{{1, 0, 0}, {1, 0, 0}, {0, 0, 1}}, api.ErrSums},
		{"columns as they should be", [][]int64{{1, 1, 0}, {0, 0, 0}, {0, 0, 1}}, api.ErrSums},
		{"columns and the first row as they should be", [][]int64{{1, 0, 0}, {0, 1, 1}, {0, 0, 0}}, api.ErrSums},
		{"rows and the first column as they should be", [][]int64{{1, 0, 0}, {0, 1, 0}, {0, 1, 0}}, api.ErrSums},
		{"a row of zeros", [][]int64{{0, 0}, {0, 1}}, api.ErrSums},
	} {
		l, e := cover.Decompose(x.m)
		expectError(t, x.what, e, x.want, l)
		for _, l := range [][]cover.Part{nil, {{[]int{0}, 1}}, {{[]int{0, 1}, 1}}, {{from(0, 13), 1}}} {
			if cover.Composes(x.m, l) {
				t.Errorf("%s: Composes(%v) is true", x.what, l)
			}
		}
	}
}

// P5.5: matrices that Decompose does not take are not composed, even of what would be their parts.
func TestInvalidMatricesAreNotComposed(t *testing.T) {
	for _, x := range []struct {
		m [][]int64
		l []cover.Part
	}{
		{diagonal(13, 1), []cover.Part{{from(0, 13), 1}}},
		{filled(13, 0), nil},
		{[][]int64{{1000001}}, []cover.Part{{[]int{0}, 1000001}}},
		{[][]int64{{1000001}}, []cover.Part{{[]int{0}, 1000000}, {[]int{0}, 1}}},
		{diagonal(12, math.MaxInt64), []cover.Part{{from(0, 12), math.MaxInt64}}},
		{[][]int64{{-1}}, []cover.Part{{[]int{0}, -1}}},
		{[][]int64{{2, -1}, {-1, 2}}, []cover.Part{{[]int{0, 1}, 2}, {[]int{1, 0}, -1}}},
		{[][]int64{{}}, nil},
		{[][]int64{{0}, {0}}, nil},
	} {
		if cover.Composes(x.m, x.l) {
			t.Errorf("Composes(%v, %v) is true", x.m, x.l)
		}
	}
}

// P5.5: lists of parts that are decompositions, and such as are none.
func TestListsOfParts(t *testing.T) {
	example := [][]int64{{2, 1}, {1, 2}}
	same, exchanged := []int{0, 1}, []int{1, 0}
	turn, back := []int{1, 2, 0}, []int{2, 0, 1}
	for _, x := range []struct {
		m    [][]int64
		l    []cover.Part
		want bool
	}{
		{example, []cover.Part{{same, 2}, {exchanged, 1}}, true},
		{example, []cover.Part{{exchanged, 1}, {same, 2}}, true},
		{example, []cover.Part{{same, 1}, {exchanged, 1}, {same, 1}}, true},
		{example, []cover.Part{{same, 1}, {exchanged, 2}}, false},
		{example, []cover.Part{{same, 2}}, false},
		{example, nil, false},
		{example, []cover.Part{{same, 2}, {exchanged, 1}, {exchanged, 1}}, false},
		{example, []cover.Part{{same, 2}, {exchanged, 1}, {same, 0}}, false},
		{example, []cover.Part{{same, 3}, {exchanged, 1}, {same, -1}}, false},
		{example, []cover.Part{{same, -1}, {exchanged, 1}, {same, 3}}, false},
		{example, []cover.Part{{same, 2}, {exchanged, 1}, {nil, 1}}, false},
		{example, []cover.Part{{same, 2}, {exchanged, 1}, {nil, 0}}, false},
		{example, []cover.Part{{same, 2}, {[]int{1}, 1}}, false},
		{example, []cover.Part{{same, 2}, {[]int{1, 0, 2}, 1}}, false},
		{example, []cover.Part{{same, 2}, {[]int{1, 1}, 1}}, false},
		{example, []cover.Part{{same, 2}, {[]int{0, 0}, 1}}, false},
		{example, []cover.Part{{same, 2}, {[]int{2, 1}, 1}}, false},
		{example, []cover.Part{{same, 2}, {[]int{1, -1}, 1}}, false},
		{example, []cover.Part{{same, 2}, {[]int{math.MaxInt, math.MinInt}, 1}}, false},
		{[][]int64{{1, 1}, {1, 1}}, []cover.Part{{[]int{0, 0}, 1}, {[]int{1, 1}, 1}}, false},
		{[][]int64{{0, 1, 0}, {0, 0, 1}, {1, 0, 0}}, []cover.Part{{turn, 1}}, true},
		{[][]int64{{0, 1, 0}, {0, 0, 1}, {1, 0, 0}}, []cover.Part{{back, 1}}, false}, // columns go to rows
		{[][]int64{{5}}, []cover.Part{{[]int{0}, 5}}, true},
		{[][]int64{{5}}, []cover.Part{{[]int{0}, math.MaxInt64}, {[]int{0}, math.MaxInt64}, {[]int{0}, 7}}, false}, // 2^64 too much
		{[][]int64{{5}}, []cover.Part{{[]int{0}, 5}, {[]int{0}, math.MaxInt64}, {[]int{0}, math.MaxInt64}, {[]int{0}, 2}}, false},
		{[][]int64{{0}}, []cover.Part{{[]int{0}, math.MaxInt64}, {[]int{0}, math.MaxInt64}, {[]int{0}, 2}}, false},
		{[][]int64{{0}}, []cover.Part{{[]int{0}, math.MinInt64}, {[]int{0}, math.MinInt64}}, false},
		{[][]int64{{0}}, nil, true},
		{[][]int64{{0}}, []cover.Part{{[]int{0}, 0}}, false},
		{[][]int64{{0}}, []cover.Part{{[]int{0}, 1}}, false},
		{filled(12, 0), nil, true},
		{diagonal(12, 1000000), []cover.Part{{from(0, 12), 1000000}}, true},
		{diagonal(12, 1000000), []cover.Part{{from(0, 12), 1000001}}, false},
		{diagonal(12, 1000000), []cover.Part{{from(0, 12), 999999}}, false},
		{diagonal(12, 1000000), slices.Repeat([]cover.Part{{from(0, 12), 1}}, 1000000), true},
		{diagonal(12, 1000000), slices.Repeat([]cover.Part{{from(0, 12), 1}}, 1000001), false},
		{nil, nil, true},
		{nil, []cover.Part{}, true},
		{nil, []cover.Part{{nil, 1}, {[]int{}, math.MaxInt64}}, true}, // of no rows each part is a permutation, and no element is wrong
		{nil, []cover.Part{{nil, 0}}, false},
		{nil, []cover.Part{{nil, -1}}, false},
		{nil, []cover.Part{{[]int{0}, 1}}, false},
	} {
		if cover.Composes(x.m, x.l) != x.want {
			t.Errorf("Composes(%v, %v and others) is not %v", x.m, x.l[:min(len(x.l), 4)], x.want)
		}
	}
}

// P5.5: decompositions that were changed in one place, against the definition.
func TestChangedDecompositions(t *testing.T) {
	r := newRandom()
	count := map[bool]int{}
	for range 3000 {
		n := r.IntN(5) + 1
		m := someMatrix(r, n, r.IntN(5)+1, 3)
		l, _ := cover.Decompose(m)
		r.Shuffle(len(l), func(i, j int) { l[i], l[j] = l[j], l[i] })
		if len(l) > 0 {
			i := r.IntN(len(l))
			switch r.IntN(5) {
			case 0:
				l[i].Weight += r.Int64N(5) - 2
			case 1:
				l[i].Perm[r.IntN(n)] = r.IntN(n+2) - 1
			case 2:
				a, b := r.IntN(n), r.IntN(n)
				l[i].Perm[a], l[i].Perm[b] = l[i].Perm[b], l[i].Perm[a]
			case 3:
				half := cover.Part{Perm: slices.Clone(l[i].Perm), Weight: l[i].Weight / 2}
				l[i].Weight -= half.Weight
				l = append(l, half)
			case 4:
				l = slices.Delete(l, i, i+1)
			}
		}
		want := composes(m, l)
		count[want]++
		if cover.Composes(m, l) != want {
			t.Errorf("Composes(%v, %v) is not %v", m, l, want)
		}
	}
	if count[true] < 300 || count[false] < 300 {
		t.Errorf("right or wrong lists are too few: %v", count)
	}
}
