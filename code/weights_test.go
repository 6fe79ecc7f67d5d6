package code_test

import (
	"math"
	"slices"
	"testing"

	"dauber/api"
	"dauber/code"
	"dauber/field"
	"dauber/tally"
)

// wordsOf returns all different sums of multiples of the rows.
func wordsOf(f *field.Field, rows [][]int, columns int) [][]int {
	var words [][]int
	for multiples := range lists(0, f.Order()-1, len(rows)) {
		words = append(words, sumOfRows(f, rows, multiples, columns))
	}
	slices.SortFunc(words, slices.Compare)
	return slices.CompactFunc(words, func(a, b []int) bool { return slices.Equal(a, b) })
}

func weightsOf(words [][]int, columns int) []tally.Int {
	counts := make([]int64, columns+1)
	for _, word := range words {
		counts[nonZero(word)]++
	}
	return integers(counts...)
}

// tiny calls a test for many small matrices.
func tiny(test func(f *field.Field, m [][]int, columns int)) {
	r := newRandom()
	for _, x := range []struct {
		q      int
		shapes [][2]int
	}{
		{2, [][2]int{{0, 0}, {1, 0}, {3, 0}, {1, 1}, {1, 7}, {7, 1}, {2, 3}, {3, 3}, {4, 4}, {3, 6}, {6, 3}, {5, 8}}},
		{3, [][2]int{{1, 1}, {2, 0}, {1, 3}, {3, 1}, {2, 2}, {3, 3}, {2, 5}, {4, 3}}},
		{4, [][2]int{{1, 2}, {2, 1}, {2, 2}, {2, 4}, {3, 2}, {3, 3}}},
		{5, [][2]int{{1, 2}, {2, 2}, {3, 2}, {2, 3}, {2, 4}}},
		{8, [][2]int{{1, 3}, {2, 2}, {2, 3}}},
		{9, [][2]int{{1, 2}, {2, 2}, {2, 3}, {3, 1}}},
	} {
		q, f := x.q, fieldOf(x.q)
		for _, shape := range x.shapes {
			for i := range 20 {
				m := anyMatrix(r, q, shape[0], shape[1])
				if i%2 == 0 && shape[0] > 1 { // a row that is a multiple of the first one
					copy(m[shape[0]-1], sumOfRows(f, m[:1], []int{r.IntN(q)}, shape[1]))
				}
				if i%3 == 0 && shape[1] > 0 { // a column of zeros
					column := r.IntN(shape[1])
					for _, row := range m {
						row[column] = 0
					}
				}
				if i == 7 {
					for _, row := range m {
						clear(row)
					}
				}
				test(f, m, shape[1])
			}
		}
	}
}

// P3.5: Weights.
func TestWeights(t *testing.T) {
	tiny(func(f *field.Field, m [][]int, columns int) {
		got, e := code.Weights(f.Order(), m)
		expectIntegers(t, "Weights", got, e, weightsOf(wordsOf(f, m, columns), columns))
	})
}

// P3.5: Dual is in echelon form, and has all lists whose product with each row is 0.
func TestDual(t *testing.T) {
	tiny(func(f *field.Field, m [][]int, columns int) {
		var want [][]int
		for list := range lists(0, f.Order()-1, columns) {
			if !slices.ContainsFunc(m, func(row []int) bool { return dot(f, row, list) != 0 }) {
				want = append(want, list)
			}
		}
		got, e := code.Dual(f.Order(), m)
		if e != api.OK || !sameRows(wordsOf(f, got, columns), want) {
			t.Errorf("Dual(%d, %v): %v, %d", f.Order(), m, got, e)
		}
		echelon, _ := f.Echelon(got)
		expectRows(t, "Echelon of the dual", got, e, echelon)
	})
}

// P3.5: Dual of large matrices; the dual of the dual is the echelon form.
func TestDualLarge(t *testing.T) {
	r := newRandom()
	for _, q := range []int{2, 3, 4, 9, 13, 256, 65521, 65536, 59049} {
		f := fieldOf(q)
		for _, shape := range [][2]int{{64, 64}, {63, 64}, {40, 64}, {1, 64}, {64, 1}, {20, 30}, {30, 20}, {5, 7}} {
			m := anyMatrix(r, q, shape[0], shape[1])
			copy(m[shape[0]-1], m[0])
			echelon, _ := f.Echelon(m)
			dual, e := code.Dual(q, m)
			if e != api.OK || len(dual)+len(echelon) != shape[1] {
				t.Fatalf("%d: Dual of %v: %d rows, %d", q, shape, len(dual), e)
			}
			for _, list := range dual {
				for _, row := range m {
					if dot(f, list, row) != 0 {
						t.Fatalf("%d: Dual of %v: %v", q, shape, list)
					}
				}
			}
			form, _ := f.Echelon(dual)
			expectRows(t, "Dual", dual, e, form)
			if len(dual) > 0 {
				again, e := code.Dual(q, dual)
				expectRows(t, "Dual of the dual", again, e, echelon)
			}
		}
	}
}

// P3.5: the examples of the chapter; no rows, rows without elements, rows of zeros; well-known codes.
func TestWeightExamples(t *testing.T) {
	all := [][]int{{1, 0, 0}, {0, 1, 0}, {0, 0, 1}}
	for _, x := range []struct {
		order   int
		rows    [][]int
		weights []int64
		dual    [][]int
	}{
		{2, [][]int{{1, 0, 1}, {0, 1, 1}}, []int64{1, 0, 3, 0}, [][]int{{1, 1, 1}}},
		{2, [][]int{{1, 1, 1}}, []int64{1, 0, 0, 1}, [][]int{{1, 0, 1}, {0, 1, 1}}},
		{2, nil, []int64{1}, nil},
		{65536, [][]int{}, []int64{1}, nil},
		{7, [][]int{nil}, []int64{1}, nil},
		{7, [][]int{{}, nil, {}}, []int64{1}, nil},
		{3, [][]int{{0, 0, 0}}, []int64{1, 0, 0, 0}, all},
		{9, [][]int{{0, 0, 0}, {0, 0, 0}}, []int64{1, 0, 0, 0}, all},
		{3, all, []int64{1, 6, 12, 8}, nil},
		{3, [][]int{{2, 0, 0}, {1, 1, 0}, {1, 1, 1}, {0, 2, 1}}, []int64{1, 6, 12, 8}, nil},
		{5, [][]int{{0, 3, 0}}, []int64{1, 4, 0, 0}, [][]int{{1, 0, 0}, {0, 0, 1}}},
		{5, [][]int{{0, 2, 4}}, []int64{1, 0, 4, 0}, [][]int{{1, 0, 0}, {0, 1, 2}}},
		{2, [][]int{{1, 0, 0, 0, 0, 1, 1}, {0, 1, 0, 0, 1, 0, 1}, {0, 0, 1, 0, 1, 1, 0}, {0, 0, 0, 1, 1, 1, 1}}, []int64{1, 0, 0, 7, 7, 0, 0, 1}, [][]int{{1, 0, 1, 0, 1, 0, 1}, {0, 1, 1, 0, 0, 1, 1}, {0, 0, 0, 1, 1, 1, 1}}},
	} {
		weights, e := code.Weights(x.order, x.rows)
		expectIntegers(t, "Weights", weights, e, integers(x.weights...))
		dual, e := code.Dual(x.order, x.rows)
		expectRows(t, "Dual", dual, e, x.dual)
	}
}

// unit returns the first rows of the matrix that leaves lists as they are, with so many columns.
func unit(rows, columns int) [][]int {
	m := make([][]int, rows)
	for i := range m {
		m[i] = make([]int, columns)
		m[i][i] = 1
	}
	return m
}

// P3.5: codes with 65536 words and with more. The number of rows is not what counts.
func TestWeightsMany(t *testing.T) {
	for _, x := range []struct {
		order, rows int
		e           api.Errno
	}{
		{2, 16, api.OK}, {4, 8, api.OK}, {16, 4, api.OK}, {256, 2, api.OK}, {65536, 1, api.OK}, {65521, 1, api.OK}, {3, 10, api.OK}, {251, 2, api.OK},
		{2, 17, api.ErrMany}, {2, 32, api.ErrMany}, {2, 63, api.ErrMany}, {2, 64, api.ErrMany}, {4, 9, api.ErrMany}, {4, 32, api.ErrMany}, {16, 5, api.ErrMany}, {16, 16, api.ErrMany}, {257, 2, api.ErrMany}, {3, 11, api.ErrMany}, {65536, 2, api.ErrMany}, {65536, 4, api.ErrMany}, {65536, 64, api.ErrMany}, {256, 8, api.ErrMany},
	} {
		columns := max(20, x.rows)
		m := unit(x.rows, columns)
		weights, e := code.Weights(x.order, m)
		if x.e != api.OK {
			expectError(t, "Weights", e, x.e, weights)
			continue
		}
		want := make([]tally.Int, columns+1)
		for i := range x.rows + 1 {
			n := choose(x.rows, i)
			want[i] = ofBig(n.Mul(n, powerOf(int64(x.order-1), i)))
		}
		expectIntegers(t, "Weights", weights, e, want)
		for len(m) < 64 { // rows that are sums of others
			m = append(m, sumOfRows(fieldOf(x.order), m[:2*x.rows/3+1], anyList(newRandom(), x.order, x.rows), columns))
		}
		weights, e = code.Weights(x.order, m)
		expectIntegers(t, "Weights of 64 rows", weights, e, want)
	}
	weights, e := code.Weights(2, [][]int{slices.Repeat([]int{1}, 64)})
	want := make([]int64, 65)
	want[0], want[64] = 1, 1
	expectIntegers(t, "Weights of 64 columns", weights, e, integers(want...))
}

// P3.5: the errors of Weights and Dual, in their order.
func TestWeightErrors(t *testing.T) {
	changed := func(rows, columns int, change func(m [][]int)) [][]int {
		m := unit(min(rows, columns), columns)
		for len(m) < rows {
			m = append(m, make([]int, columns))
		}
		change(m)
		return m
	}
	for _, x := range []struct {
		name       string
		rows       [][]int
		e          api.Errno
		ofManyOnly bool
	}{
		{"65 rows", changed(65, 2, func(m [][]int) {}), api.ErrLong, false},
		{"65 columns", changed(2, 65, func(m [][]int) {}), api.ErrLong, false},
		{"65 rows of none", make([][]int, 65), api.ErrLong, false},
		{"65 rows of different lengths", changed(65, 2, func(m [][]int) { m[1] = nil }), api.ErrLong, false},
		{"65 columns and an element that is none", changed(2, 65, func(m [][]int) { m[1][64] = -1 }), api.ErrLong, false},
		{"65 columns and many words", changed(64, 65, func(m [][]int) {}), api.ErrLong, false},
		{"a short row", changed(3, 3, func(m [][]int) { m[2] = m[2][:2] }), api.ErrShape, false},
		{"a long row", changed(3, 3, func(m [][]int) { m[1] = append(m[1], 0) }), api.ErrShape, false},
		{"a row of 65", changed(3, 64, func(m [][]int) { m[1] = append(m[1], 0) }), api.ErrShape, false},
		{"no first row", changed(3, 3, func(m [][]int) { m[0] = nil }), api.ErrShape, false},
		{"a short row and an element that is none", changed(3, 3, func(m [][]int) { m[0][0] = -1; m[2] = nil }), api.ErrShape, false},
		{"a short row and many words", changed(40, 40, func(m [][]int) { m[39] = nil }), api.ErrShape, false},
		{"9", changed(3, 3, func(m [][]int) { m[2][2] = 9 }), api.ErrArg, false},
		{"-1", changed(3, 3, func(m [][]int) { m[0][1] = -1 }), api.ErrArg, false},
		{"the greatest int", changed(3, 3, func(m [][]int) { m[0][1] = math.MaxInt }), api.ErrArg, false},
		{"the least int", changed(3, 3, func(m [][]int) { m[0][1] = math.MinInt }), api.ErrArg, false},
		{"-1 and many words", changed(64, 64, func(m [][]int) { m[63][63] = -1 }), api.ErrArg, false},
		{"many words", changed(64, 64, func(m [][]int) {}), api.ErrMany, true},
	} {
		for _, q := range []int{2, 7, 9} {
			weights, e := code.Weights(q, x.rows)
			expectError(t, "Weights of "+x.name, e, x.e, weights)
			dual, e := code.Dual(q, x.rows)
			if x.ofManyOnly {
				expectRows(t, "Dual of "+x.name, dual, e, nil)
			} else {
				expectError(t, "Dual of "+x.name, e, x.e, dual)
			}
		}
		for _, q := range noOrders() {
			weights, e := code.Weights(q, x.rows)
			expectError(t, "Weights of no field", e, api.ErrField, weights)
			dual, e := code.Dual(q, x.rows)
			expectError(t, "Dual of no field", e, api.ErrField, dual)
		}
	}
	for _, q := range noOrders() {
		for _, rows := range [][][]int{nil, {{}}, {{0}}, {{1, 0}, {0, 1}}} {
			weights, e := code.Weights(q, rows)
			expectError(t, "Weights of no field", e, api.ErrField, weights)
			dual, e := code.Dual(q, rows)
			expectError(t, "Dual of no field", e, api.ErrField, dual)
		}
	}
}

// noOrders are numbers of which no field has the order.
func noOrders() []int {
	return []int{6, 1, 0, -1, -2, -7, 10, 12, 100, 65535, 65537, 66049, 131072, math.MaxInt, math.MinInt}
}

// P3.9, W2: Transform of the weights of a code are the weights of its dual.
func TestMacWilliams(t *testing.T) {
	tiny(func(f *field.Field, m [][]int, columns int) {
		q := f.Order()
		echelon, _ := f.Echelon(m)
		weights, _ := code.Weights(q, m)
		dual, _ := code.Dual(q, m)
		if columns > 0 && len(dual) == 0 { // no rows have no columns
			dual = [][]int{make([]int, columns)}
		}
		want, _ := code.Weights(q, dual)
		got, e := code.Transform(q, len(echelon), weights)
		expectIntegers(t, "Transform", got, e, want)
		again, e := code.Transform(q, columns-len(echelon), got)
		expectIntegers(t, "Transform of the dual", again, e, weights)
	})
}

// P3.9: larger codes of which both have few enough words, or whose dual has too many: then the dual's weights, transformed, are the code's.
func TestMacWilliamsLarge(t *testing.T) {
	r := newRandom()
	for _, x := range [][3]int{{2, 12, 24}, {2, 8, 24}, {3, 8, 16}, {3, 5, 15}, {4, 6, 12}, {7, 3, 7}, {16, 3, 6}, {256, 2, 3}, {251, 1, 3}, {2, 10, 64}, {3, 4, 64}, {256, 1, 64}} {
		q, rows, columns := x[0], x[1], x[2]
		f := fieldOf(q)
		m := anyMatrix(r, q, rows, columns)
		echelon, _ := f.Echelon(m)
		weights, e := code.Weights(q, m)
		if e != api.OK {
			t.Fatalf("Weights of %v: %d", x, e)
		}
		got, e := code.Transform(q, len(echelon), weights)
		dual, _ := code.Dual(q, m)
		if want, many := code.Weights(q, dual); many == api.OK {
			expectIntegers(t, "Transform", got, e, want)
		}
		again, e := code.Transform(q, columns-len(echelon), got)
		expectIntegers(t, "Transform of the dual", again, e, weights)
	}
}
