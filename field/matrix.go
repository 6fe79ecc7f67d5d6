package field

import "slices"

// matrix is a list of rows of the same length, which the operations change.
type matrix struct {
	over *Field
	rows [][]int
}

func copied(rows [][]int) [][]int {
	result := make([][]int, len(rows))
	for i, row := range rows {
		result[i] = slices.Clone(row)
	}
	return result
}

func (m matrix) width() int {
	if len(m.rows) == 0 {
		return 0
	}
	return len(m.rows[0])
}

func (m matrix) exchange(i, j int) {
	m.rows[i], m.rows[j] = m.rows[j], m.rows[i]
}

func (m matrix) multiply(i, by int) {
	for j, a := range m.rows[i] {
		m.rows[i][j] = m.over.product(a, by)
	}
}

func (m matrix) subtract(from, row, times int) {
	m.over.addMultiple(m.rows[from], m.rows[row], m.over.negative(times))
}

// pair is a matrix and a record of what is done to it: a row of the record has the multiples of the first rows whose sum the row of the matrix is.
type pair struct {
	matrix
	record matrix
}

// recorded returns the pair of a copy of the rows, to which nothing has been done.
func (f *Field) recorded(rows [][]int) pair {
	p := pair{matrix{f, copied(rows)}, f.unrecorded(len(rows))}
	for i := range p.record.rows {
		p.record.rows[i] = make([]int, len(rows))
		p.record.rows[i][i] = 1
	}
	return p
}

// unrecorded returns a record that keeps nothing, of a matrix with n rows.
func (f *Field) unrecorded(n int) matrix {
	return matrix{f, make([][]int, n)}
}

func (p pair) exchange(i, j int) {
	p.matrix.exchange(i, j)
	p.record.exchange(i, j)
}

func (p pair) multiply(i, by int) {
	p.matrix.multiply(i, by)
	p.record.multiply(i, by)
}

func (p pair) subtract(from, row, times int) {
	p.matrix.subtract(from, row, times)
	p.record.subtract(from, row, times)
}

// eliminate makes the matrix its echelon form, followed by rows that are 0, and returns the columns of the first elements of its rows.
func (p pair) eliminate() (columns []int) {
	for column := range p.width() {
		top := len(columns)
		row := top
		for row < len(p.rows) && p.rows[row][column] == 0 {
			row++
		}
		if row == len(p.rows) {
			continue
		}
		p.exchange(top, row)
		p.multiply(top, p.over.inverse(p.rows[top][column]))
		for i := range p.rows {
			if i != top {
				p.subtract(i, top, p.rows[i][column])
			}
		}
		columns = append(columns, column)
	}
	return columns
}
