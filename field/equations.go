package field

import (
	"slices"

	"dauber/api"
)

func (f *Field) checkMatrix(m [][]int) api.Errno {
	switch {
	case f == nil:
		return api.ErrNil
	case len(m) == 0:
		return api.OK
	case len(m) > api.MaxRows || len(m[0]) > api.MaxRows:
		return api.ErrLong
	}
	for _, row := range m {
		if len(row) != len(m[0]) {
			return api.ErrShape
		}
	}
	for _, row := range m {
		if !f.areElements(row) {
			return api.ErrArg
		}
	}
	return api.OK
}

func (f *Field) checkEquations(m [][]int, b []int) api.Errno {
	if e := f.checkMatrix(m); e != api.OK {
		return e
	}
	switch {
	case len(b) != len(m):
		return api.ErrShape
	case !f.areElements(b):
		return api.ErrArg
	}
	return api.OK
}

// sumOfProducts multiplies the elements of two lists of the same length at the same places.
func (f *Field) sumOfProducts(a, b []int) int {
	total := 0
	for i := range a {
		total = f.sum(total, f.product(a[i], b[i]))
	}
	return total
}

// solve returns the solution whose elements are 0 where the echelon form has no first element of a row, or else a denial.
func (f *Field) solve(m [][]int, b []int) (solution, denial []int) {
	p := f.recorded(m)
	columns := p.eliminate()
	for _, multiples := range p.record.rows[len(columns):] {
		if f.sumOfProducts(multiples, b) != 0 {
			return nil, multiples
		}
	}
	solution = make([]int, p.width())
	for i, column := range columns {
		solution[column] = f.sumOfProducts(p.record.rows[i], b)
	}
	return solution, nil
}

// Echelon returns the echelon form of m; ErrLong, ErrShape or ErrArg.
func (f *Field) Echelon(m [][]int) ([][]int, api.Errno) {
	if e := f.checkMatrix(m); e != api.OK {
		return nil, e
	}
	p := pair{matrix{f, copied(m)}, f.unrecorded(len(m))}
	rank := len(p.eliminate())
	return slices.Clip(p.rows[:rank]), api.OK
}

// Solve returns the solution of m x = b whose elements are 0 where the echelon form of m has no first element of a row; ErrLong, ErrShape, ErrArg; or ErrNone if there is no solution.
func (f *Field) Solve(m [][]int, b []int) ([]int, api.Errno) {
	if e := f.checkEquations(m, b); e != api.OK {
		return nil, e
	}
	solution, denial := f.solve(m, b)
	if denial != nil {
		return nil, api.ErrNone
	}
	return solution, api.OK
}

// Deny returns a denial of m x = b, if Solve returns ErrNone.
func (f *Field) Deny(m [][]int, b []int) ([]int, bool) {
	if f.checkEquations(m, b) != api.OK {
		return nil, false
	}
	_, denial := f.solve(m, b)
	return denial, denial != nil
}

// Denies reports whether w is a denial of m x = b.
func (f *Field) Denies(m [][]int, b, w []int) bool {
	if f.checkEquations(m, b) != api.OK || len(w) != len(m) || !f.areElements(w) {
		return false
	}
	total := make([]int, matrix{f, m}.width())
	for i, row := range m {
		f.addMultiple(total, row, w[i])
	}
	return len(trimmed(total)) == 0 && f.sumOfProducts(w, b) != 0
}
