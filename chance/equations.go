package chance

import (
	"slices"

	"dauber/api"
)

// number is an element of a field. No operation on the numbers of solve has an error.
type number[T any] interface {
	Sign() int
	Sub(T) (T, api.Errno)
	Mul(T) (T, api.Errno)
	Quo(T) (T, api.Errno)
}

// solve returns the solutions of equations for as many unknowns as there are rows. A row has the coefficients, and then a right side for each of the solutions; what is returned has for each unknown its value in each of them. The determinants of the first rows and columns are not 0, so that no rows need to be exchanged. The rows are changed; coefficients that are 0 or 1 at last are not calculated.
func solve[T number[T]](rows [][]T) [][]T {
	for k, row := range rows {
		divide(row[k+1:], row[k])
		for _, later := range rows[k+1:] {
			takeMultiple(later[k+1:], row[k+1:], later[k])
		}
	}
	solutions := make([][]T, len(rows))
	for k, row := range slices.Backward(rows) {
		solutions[k] = slices.Clone(row[len(rows):])
		for _, earlier := range rows[:k] {
			takeMultiple(earlier[len(rows):], solutions[k], earlier[k])
		}
	}
	return solutions
}

func divide[T number[T]](row []T, by T) {
	for i, x := range row {
		row[i], _ = x.Quo(by)
	}
}

// takeMultiple takes the multiple of other by factor from row.
func takeMultiple[T number[T]](row, other []T, factor T) {
	if factor.Sign() == 0 {
		return
	}
	for i, x := range other {
		if x.Sign() != 0 {
			product, _ := x.Mul(factor)
			row[i], _ = row[i].Sub(product)
		}
	}
}
