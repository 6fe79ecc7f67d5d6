package field_test

import (
	"math"
	"math/rand/v2"
	"slices"
	"strconv"
	"strings"
	"testing"

	"dauber/api"
	"dauber/field"
)

// rowNumber returns a number for a row, by which rows can be compared.
func rowNumber(o oracle, row []int) int {
	return fromDigits(row, o.q)
}

// allSums returns the numbers of all sums of multiples of the rows, which have that many columns.
func allSums(o oracle, m [][]int, columns int) map[int]bool {
	found := map[int]bool{}
	for multiples := range o.lists(len(m)) {
		found[rowNumber(o, sumOfRows(o, m, multiples, columns))] = true
	}
	return found
}

func sumOfRows(o oracle, m [][]int, multiples []int, columns int) []int {
	total := make([]int, columns)
	for i, row := range m {
		for j, a := range row {
			total[j] = o.add(total[j], o.multiply(a, multiples[i]))
		}
	}
	return total
}

// firstColumn returns the first column in which the row is not 0.
func firstColumn(row []int) int {
	return slices.IndexFunc(row, func(a int) bool { return a != 0 })
}

// isEchelonForm checks the definition, except for the sums of multiples of rows.
func isEchelonForm(m [][]int, columns int) bool {
	last := -1
	for i, row := range m {
		column := firstColumn(row)
		if len(row) != columns || column <= last || row[column] != 1 {
			return false
		}
		for j, other := range m {
			if j != i && other[column] != 0 {
				return false
			}
		}
		last = column
	}
	return true
}

func transposed(m [][]int) [][]int {
	if len(m) == 0 {
		return nil
	}
	result := make([][]int, len(m[0]))
	for j := range result {
		for _, row := range m {
			result[j] = append(result[j], row[j])
		}
	}
	return result
}

func image(o oracle, m [][]int, x []int) []int {
	var b []int
	for _, row := range m {
		b = append(b, o.dot(row, x))
	}
	return b
}

// tinyShapes are numbers of rows and columns for which everything can be tried.
func tinyShapes() map[int][][2]int {
	return map[int][][2]int{
		2: {{0, 0}, {1, 0}, {3, 0}, {1, 1}, {1, 5}, {5, 1}, {2, 3}, {3, 3}, {4, 4}, {3, 5}, {5, 3}, {6, 4}},
		3: {{1, 1}, {2, 0}, {1, 3}, {3, 1}, {2, 2}, {3, 3}, {2, 4}, {4, 2}},
		4: {{1, 2}, {2, 1}, {2, 2}, {2, 3}, {3, 2}, {3, 3}},
		5: {{1, 2}, {2, 2}, {3, 2}, {2, 3}},
		9: {{1, 2}, {2, 2}, {2, 1}},
	}
}

// tiny calls a test for many small matrices.
func tiny(test func(f *field.Field, o oracle, r *rand.Rand, m [][]int, columns int)) {
	r := newRandom()
	for q, shapes := range tinyShapes() {
		f, o := fieldOf(q), oracleOf(q)
		for _, shape := range shapes {
			for i := range 40 {
				m := anyMatrix(r, q, shape[0], shape[1])
				if i%2 == 0 && shape[0] > 1 { // a row that is a multiple of the first one
					copy(m[shape[0]-1], o.polynomialProduct(m[0], []int{r.IntN(q)}))
				}
				if i%3 == 0 && shape[1] > 0 { // a column of zeros
					column := r.IntN(shape[1])
					for _, row := range m {
						row[column] = 0
					}
				}
				test(f, o, r, m, shape[1])
			}
		}
	}
}

// P2.4: Echelon returns the echelon form.
func TestEchelon(t *testing.T) {
	tiny(func(f *field.Field, o oracle, r *rand.Rand, m [][]int, columns int) {
		got, e := f.Echelon(m)
		if e != api.OK || !isEchelonForm(got, columns) {
			t.Fatalf("%d: Echelon(%v): %v, %d", o.q, m, got, e)
		}
		sums, wanted := allSums(o, got, columns), allSums(o, m, columns)
		if len(sums) != len(wanted) {
			t.Fatalf("%d: Echelon(%v): %v", o.q, m, got)
		}
		for sum := range wanted {
			if !sums[sum] {
				t.Fatalf("%d: Echelon(%v): %v", o.q, m, got)
			}
		}
	})
}

// echelonOf returns a random matrix in echelon form.
func echelonOf(r *rand.Rand, q, rows, columns int) [][]int {
	firsts := r.Perm(columns)[:rows]
	slices.Sort(firsts)
	m := make([][]int, rows)
	for i := range m {
		m[i] = make([]int, columns)
		for j := firsts[i] + 1; j < columns; j++ {
			if _, is := slices.BinarySearch(firsts, j); !is {
				m[i][j] = r.IntN(q)
			}
		}
		m[i][firsts[i]] = 1
	}
	return m
}

// mixed returns a matrix with the same sums of multiples of rows and with more rows, by steps that can be undone.
func mixed(f *field.Field, r *rand.Rand, m [][]int, rows int) [][]int {
	result := make([][]int, rows)
	for i := range result {
		result[i] = make([]int, len(m[0]))
		if i < len(m) {
			copy(result[i], m[i])
		}
	}
	for range 6 * rows {
		i, j, times := r.IntN(rows), r.IntN(rows), r.IntN(f.Order())
		if i == j {
			continue
		}
		for column := range result[i] {
			result[i][column] = f.Add(result[i][column], f.Mul(times, result[j][column]))
		}
	}
	r.Shuffle(rows, func(i, j int) { result[i], result[j] = result[j], result[i] })
	return result
}

func sameRows(a, b [][]int) bool {
	return slices.EqualFunc(a, b, func(x, y []int) bool { return slices.Equal(x, y) })
}

// P2.4: Echelon of large matrices whose echelon form is known.
func TestEchelonLarge(t *testing.T) {
	r := newRandom()
	for _, q := range []int{2, 3, 4, 9, 13, 256, 65521, 65536, 59049} {
		f := fieldOf(q)
		for _, shape := range [][3]int{{64, 64, 64}, {63, 64, 64}, {40, 64, 64}, {1, 64, 64}, {20, 30, 64}, {30, 64, 31}, {5, 6, 7}} {
			want := echelonOf(r, q, shape[0], shape[2])
			m := mixed(f, r, want, shape[1])
			if got, e := f.Echelon(m); e != api.OK || !sameRows(got, want) {
				t.Errorf("%d: Echelon of %v: %d", q, shape, e)
			}
			if got, e := f.Echelon(transposed(m)); e != api.OK || len(got) != shape[0] {
				t.Errorf("%d: Echelon of %v, with rows and columns exchanged: %d rows, %d", q, shape, len(got), e)
			}
		}
	}
}

// P2.4: Solve and Deny, against all lists. P2.8: there is either a solution or a denial, never both.
func TestSolve(t *testing.T) {
	tiny(func(f *field.Field, o oracle, r *rand.Rand, m [][]int, columns int) {
		echelon, _ := f.Echelon(m)
		first := make([]bool, columns)
		for _, row := range echelon {
			first[firstColumn(row)] = true
		}
		for _, b := range [][]int{anyList(r, o.q, len(m)), image(o, m, anyList(r, o.q, columns)), make([]int, len(m))} {
			var want []int
			solvable := false
			for x := range o.lists(columns) {
				if !slices.Equal(image(o, m, x), b) {
					continue
				}
				solvable = true
				if freeAreZero(x, first) {
					want = x
				}
			}
			denied := false
			for w := range o.lists(len(m)) {
				is := firstColumn(sumOfRows(o, m, w, columns)) < 0 && o.dot(w, b) != 0
				denied = denied || is
				if f.Denies(m, b, w) != is {
					t.Fatalf("%d: Denies(%v, %v, %v): %t", o.q, m, b, w, !is)
				}
			}
			if denied == solvable {
				t.Fatalf("%d: %v, %v: solvable %t, denied %t", o.q, m, b, solvable, denied)
			}
			x, e := f.Solve(m, b)
			w, is := f.Deny(m, b)
			if solvable {
				expectList(t, "Solve", x, e, want)
				if is || len(w) > 0 {
					t.Errorf("%d: Deny(%v, %v): %v, %t", o.q, m, b, w, is)
				}
				continue
			}
			expectError(t, "Solve", e, api.ErrNone, x)
			if !is || !f.Denies(m, b, w) {
				t.Errorf("%d: Deny(%v, %v): %v, %t", o.q, m, b, w, is)
			}
		}
	})
}

// freeAreZero reports whether x is 0 in all columns in which no row of the echelon form has its first element.
func freeAreZero(x []int, first []bool) bool {
	for j, a := range x {
		if !first[j] && a != 0 {
			return false
		}
	}
	return true
}

// P2.4, P2.8: Solve and Deny of large matrices.
func TestSolveLarge(t *testing.T) {
	r := newRandom()
	for _, q := range []int{2, 3, 4, 9, 256, 65521, 65536, 59049} {
		f, o := fieldOf(q), oracleOf(q)
		for _, shape := range [][3]int{{64, 64, 64}, {40, 64, 64}, {30, 64, 31}, {5, 6, 64}, {3, 64, 8}} {
			m := mixed(f, r, echelonOf(r, q, shape[0], shape[2]), shape[1])
			b := image(o, m, anyList(r, q, shape[2]))
			x, e := f.Solve(m, b)
			if e != api.OK || len(x) != shape[2] || !slices.Equal(image(o, m, x), b) {
				t.Errorf("%d: Solve of %v: %d", q, shape, e)
			}
			if w, is := f.Deny(m, b); is || len(w) > 0 {
				t.Errorf("%d: Deny of %v: %v, %t", q, shape, w, is)
			}
			for range 4 {
				b[r.IntN(len(b))] = r.IntN(q)
				x, e := f.Solve(m, b)
				w, is := f.Deny(m, b)
				solved := e == api.OK && slices.Equal(image(o, m, x), b)
				denied := is && len(w) == len(m) && firstColumn(sumOfRows(o, m, w, shape[2])) < 0 && o.dot(w, b) != 0
				if solved == denied || is != (e == api.ErrNone) || is != f.Denies(m, b, w) {
					t.Errorf("%d: Solve and Deny of %v: %d, %t", q, shape, e, is)
				}
			}
		}
	}
}

// matrixCase is a matrix, and what is found when it is looked at.
type matrixCase struct {
	m [][]int
	e api.Errno
}

func matrixCases(q int) []matrixCase {
	r := newRandom()
	of := func(rows, columns int, change func(m [][]int)) [][]int {
		m := anyMatrix(r, q, rows, columns)
		change(m)
		return m
	}
	keep := func([][]int) {}
	return []matrixCase{
		{nil, api.OK}, {[][]int{}, api.OK}, {[][]int{nil}, api.OK}, {[][]int{{}, nil}, api.OK}, {of(64, 64, keep), api.OK}, {of(64, 1, keep), api.OK}, {of(1, 64, keep), api.OK}, {of(2, 3, keep), api.OK},
		{of(65, 1, keep), api.ErrLong}, {of(1, 65, keep), api.ErrLong}, {make([][]int, 65), api.ErrLong},
		{of(65, 2, func(m [][]int) { m[1] = nil; m[2][0] = q }), api.ErrLong},
		{of(3, 65, func(m [][]int) { m[0][0] = -1; m[1] = nil }), api.ErrLong},
		{of(3, 64, func(m [][]int) { m[1] = make([]int, 65) }), api.ErrShape},
		{of(3, 3, func(m [][]int) { m[2] = m[2][:2] }), api.ErrShape},
		{of(3, 3, func(m [][]int) { m[1] = append(m[1], 0) }), api.ErrShape},
		{of(3, 3, func(m [][]int) { m[1] = nil }), api.ErrShape},
		{of(3, 3, func(m [][]int) { m[0] = nil }), api.ErrShape},
		{of(3, 3, func(m [][]int) { m[0][0] = q; m[2] = nil }), api.ErrShape},
		{of(3, 3, func(m [][]int) { m[1][1] = -1; m[2] = append(m[2], q) }), api.ErrShape},
		{of(3, 3, func(m [][]int) { m[0][0] = q }), api.ErrArg},
		{of(3, 3, func(m [][]int) { m[2][2] = -1 }), api.ErrArg},
		{of(3, 3, func(m [][]int) { m[1][2] = math.MaxInt }), api.ErrArg},
		{of(64, 64, func(m [][]int) { m[63][63] = math.MinInt }), api.ErrArg},
	}
}

// P2.4: the errors of Echelon, Solve, Deny and Denies, in their order: the matrix first, then b.
func TestMatrixErrors(t *testing.T) {
	for _, q := range []int{2, 7, 8, 9} {
		f := fieldOf(q)
		for _, c := range matrixCases(q) {
			got, e := f.Echelon(c.m)
			if c.e != api.OK {
				expectError(t, "Echelon", e, c.e, got)
			} else if e != api.OK {
				t.Errorf("Echelon: %d", e)
			}
			n := len(c.m)
			bad := make([]int, n)
			if n > 0 {
				bad[n-1] = q
			}
			below := make([]int, n+1)
			below[0] = -1
			for _, b := range [][]int{make([]int, n), make([]int, n+1), bad, append(slices.Clone(bad), 0), below, below[:n]} {
				want := c.e
				if want == api.OK && len(b) != n {
					want = api.ErrShape
				}
				if want == api.OK && n > 0 && (b[n-1] == q || b[0] == -1) {
					want = api.ErrArg
				}
				x, e := f.Solve(c.m, b)
				w, is := f.Deny(c.m, b)
				if want != api.OK {
					expectError(t, "Solve", e, want, x)
					expectError(t, "Deny", api.OK, api.OK, w, is)
					if f.Denies(c.m, b, make([]int, n)) {
						t.Errorf("Denies of a matrix or a list that is not valid")
					}
				} else if e != api.OK {
					t.Errorf("Solve: %d", e)
				}
			}
		}
	}
}

// P2.4: what Denies takes. All that is wrong in a call is what its name says.
func TestDenies(t *testing.T) {
	f := fieldOf(5)
	m, b, w := [][]int{{1, 2}, {2, 4}}, []int{1, 3}, []int{3, 1}
	for _, c := range []struct {
		name string
		m    [][]int
		b, w []int
		is   bool
	}{
		{"a denial", m, b, w, true},
		{"a multiple of a denial", m, b, []int{1, 2}, true},
		{"zeros", m, b, []int{0, 0}, false},
		{"rows whose sum is not 0", m, b, []int{3, 2}, false},
		{"only the last column is not 0", [][]int{{1, 2}, {2, 3}}, b, w, false},
		{"a sum of b that is 0", m, []int{1, 2}, w, false},
		{"a short w", m, b, []int{3}, false},
		{"no w", m, b, nil, false},
		{"a long w", m, b, []int{3, 1, 0}, false},
		{"w with 5 added", m, b, []int{3, 6}, false},
		{"w with 5 taken", m, b, []int{-2, 1}, false},
		{"a short b", m, []int{1}, w, false},
		{"a long b", m, []int{1, 3, 0}, w, false},
		{"b with 5 added", m, []int{6, 3}, w, false},
		{"b with 5 taken", m, []int{1, -2}, w, false},
		{"m with 5 added", [][]int{{1, 2}, {2, 9}}, b, w, false},
		{"m with 5 taken", [][]int{{1, -3}, {2, 4}}, b, w, false},
		{"rows of different lengths", [][]int{{1, 2}, {2, 4, 0}}, b, w, false},
		{"no rows", nil, nil, nil, false},
		{"rows without elements", [][]int{{}, {}}, []int{0, 1}, []int{0, 3}, true},
		{"rows without elements, and 0", [][]int{{}, {}}, []int{0, 1}, []int{2, 0}, false},
	} {
		if f.Denies(c.m, c.b, c.w) != c.is {
			t.Errorf("Denies of %s: %t", c.name, !c.is)
		}
	}
	long, ones := make([][]int, 65), make([]int, 65)
	for i := range ones {
		ones[i] = 1
	}
	if f.Denies(long, ones, ones) || !f.Denies(long[:64], ones[:64], ones[:64]) {
		t.Error("Denies of too many rows")
	}
	wide := [][]int{make([]int, 65)}
	if f.Denies(wide, ones[:1], ones[:1]) || !f.Denies([][]int{wide[0][:64]}, ones[:1], ones[:1]) {
		t.Error("Denies of rows that are too long")
	}
}

// P2.4: equations without rows, or without unknowns.
func TestEmptyEquations(t *testing.T) {
	f := fieldOf(4)
	x, e := f.Solve(nil, nil)
	expectList(t, "Solve of no rows", x, e, nil)
	if w, is := f.Deny(nil, []int{}); is || len(w) > 0 {
		t.Errorf("Deny of no rows: %v, %t", w, is)
	}
	x, e = f.Solve([][]int{{}, {}}, []int{0, 0})
	expectList(t, "Solve of rows without elements", x, e, nil)
	x, e = f.Solve([][]int{{}, {}}, []int{0, 3})
	expectError(t, "Solve of rows without elements", e, api.ErrNone, x)
	if w, is := f.Deny([][]int{{}, {}}, []int{0, 3}); !is || len(w) != 2 || w[1] == 0 {
		t.Errorf("Deny of rows without elements: %v, %t", w, is)
	}
	if h, e := f.Echelon([][]int{{0, 0}, {0, 0}}); len(h) > 0 || e != api.OK {
		t.Errorf("Echelon of zeros: %v, %d", h, e)
	}
	x, e = f.Solve([][]int{{0, 0, 0}}, []int{0})
	expectList(t, "Solve of zeros", x, e, []int{0, 0, 0})
}

// The chapter's example, and an echelon form calculated by hand.
func TestEquationExamples(t *testing.T) {
	f := fieldOf(5)
	m := [][]int{{1, 2}, {2, 4}}
	x, e := f.Solve(m, []int{1, 3})
	expectError(t, "Solve", e, api.ErrNone, x)
	x, e = f.Solve(m, []int{1, 2})
	expectList(t, "Solve", x, e, []int{1, 0})
	h, e := f.Echelon([][]int{{0, 2, 1}, {3, 1, 1}})
	if e != api.OK || !sameRows(h, [][]int{{1, 0, 1}, {0, 1, 3}}) {
		t.Errorf("Echelon: %s, %d", written(h), e)
	}
}

func written(m [][]int) string {
	var rows []string
	for _, row := range m {
		var elements []string
		for _, a := range row {
			elements = append(elements, strconv.Itoa(a))
		}
		rows = append(rows, strings.Join(elements, " "))
	}
	return strings.Join(rows, "; ")
}
