package cover

import (
	"slices"

	"dauber/api"
)

// Part is a permutation of the rows of a matrix, and its weight.
type Part struct {
	Perm   []int
	Weight int64
}

const (
	maxMatrix  = 12 // rows
	maxElement = 1000000
)

// Decompose returns a decomposition with at most (n - 1)^2 + 1 parts for n rows; ErrShape if m has more than 12 rows, or a row does not have as many elements as there are rows; ErrArg if an element is not from 0 to 1000000; or ErrSums if rows and columns do not all have the same sum.
func Decompose(m [][]int64) ([]Part, api.Errno) {
	sum, e := checkMatrix(m)
	if e != api.OK {
		return nil, e
	}
	rest := cloneMatrix(m)
	var parts []Part
	// Each part makes an element 0: what is left is in a face of a lower dimension of the polytope of such matrices, whose dimension is (n - 1)^2. So there are never too many.
	for sum > 0 {
		p := Part{Perm: support(rest)}
		p.Weight = p.least(rest)
		p.subtract(rest)
		sum -= p.Weight
		parts = append(parts, p)
	}
	return parts, api.OK
}

// Composes reports whether m is as Decompose takes it, and l a decomposition of it.
func Composes(m [][]int64, l []Part) bool {
	sum, e := checkMatrix(m)
	if e != api.OK {
		return false
	}
	rest := cloneMatrix(m)
	for _, p := range l {
		if !isPermutation(p.Perm, len(m)) || p.Weight <= 0 {
			return false
		}
		if len(m) == 0 {
			continue
		}
		if p.Weight > p.least(rest) {
			return false
		}
		p.subtract(rest)
		sum -= p.Weight
	}
	return sum == 0
}

// checkMatrix returns the sum of each row and column.
func checkMatrix(m [][]int64) (int64, api.Errno) {
	if len(m) > maxMatrix {
		return 0, api.ErrShape
	}
	for _, row := range m {
		if len(row) != len(m) {
			return 0, api.ErrShape
		}
	}
	var rows, columns [maxMatrix]int64
	for i, row := range m {
		for j, x := range row {
			if x < 0 || x > maxElement {
				return 0, api.ErrArg
			}
			rows[i] += x
			columns[j] += x
		}
	}
	for i := range m {
		if rows[i] != rows[0] || columns[i] != rows[0] {
			return 0, api.ErrSums
		}
	}
	return rows[0], api.OK
}

func cloneMatrix(m [][]int64) [][]int64 {
	clone := make([][]int64, len(m))
	for i, row := range m {
		clone[i] = slices.Clone(row)
	}
	return clone
}

// support returns a permutation all of whose elements are greater than 0. There is one, because all rows and columns have the same sum.
func support(m [][]int64) []int {
	wishes := make([]set, len(m))
	for i, row := range m {
		for j, x := range row {
			if x > 0 {
				wishes[i] |= only(j)
			}
		}
	}
	p, _ := pair(wishes)
	return p
}

func isPermutation(p []int, n int) bool {
	_, is := readSet(p, n)
	return is && len(p) == n
}

// least returns the least element of m that the part has; m has at least one row.
func (p Part) least(m [][]int64) int64 {
	least := m[0][p.Perm[0]]
	for i, j := range p.Perm {
		least = min(least, m[i][j])
	}
	return least
}

func (p Part) subtract(m [][]int64) {
	for i, j := range p.Perm {
		m[i][j] -= p.Weight
	}
}
