package code

import (
	"iter"
	"slices"

	"dauber/api"
	"dauber/field"
	"dauber/tally"
)

// linear is a linear code, given by the echelon form of its rows.
type linear struct {
	f       *field.Field
	rows    [][]int
	columns int
}

// newLinear returns the linear code of the rows; ErrField; or what Echelon returns.
func newLinear(order int, rows [][]int) (linear, api.Errno) {
	f, e := field.New(order)
	if e != api.OK {
		return linear{}, e
	}
	echelon, e := f.Echelon(rows)
	if e != api.OK {
		return linear{}, e
	}
	columns := 0
	if len(rows) > 0 {
		columns = len(rows[0])
	}
	return linear{f, echelon, columns}, api.OK
}

// linearOf returns a code of Reed and Solomon, which is valid, as a linear code.
func linearOf(c Code) linear {
	f, _ := field.New(c.Order)
	var rows [][]int
	for i := range c.K {
		power := make([]int, c.K)
		power[i] = 1
		rows = append(rows, valuesAt(f, c.Points, power))
	}
	echelon, _ := f.Echelon(rows)
	return linear{f, echelon, len(c.Points)}
}

// words yields all words, ordered as lists. Each one changes into the next one: whoever keeps it copies it.
func (l linear) words() iter.Seq[[]int] {
	return func(yield func([]int) bool) {
		word := make([]int, l.columns)
		multiples := make([]int, len(l.rows))
		for yield(word) && l.advance(word, multiples) {
		}
	}
}

// advance makes of a word, which is the sum of these multiples of the rows, the next one. It reports false after the last one. In echelon form a row is 0 where an earlier row begins, so that words are ordered as their multiples are.
func (l linear) advance(word, multiples []int) bool {
	for i, row := range slices.Backward(l.rows) {
		next := (multiples[i] + 1) % l.f.Order()
		addMultiple(l.f, word, row, l.f.Sub(next, multiples[i]))
		multiples[i] = next
		if next != 0 {
			return true
		}
	}
	return false
}

// firsts returns the columns in which the rows have their first elements.
func (l linear) firsts() []int {
	var columns []int
	for _, row := range l.rows {
		columns = append(columns, slices.IndexFunc(row, func(a int) bool { return a != 0 }))
	}
	return columns
}

// Weights returns the weights of the linear code of the rows; ErrField; what Echelon returns; or ErrMany if it has more than 65536 words.
func Weights(order int, rows [][]int) ([]tally.Int, api.Errno) {
	l, e := newLinear(order, rows)
	if e != api.OK {
		return nil, e
	}
	if areMany(order, len(l.rows)) {
		return nil, api.ErrMany
	}
	var counts [maxPlaces + 1]int64
	zero := make([]int, l.columns)
	for word := range l.words() {
		counts[distance(word, zero)]++
	}
	weights := make([]tally.Int, l.columns+1)
	for i := range weights {
		weights[i] = tally.Of(counts[i])
	}
	return weights, api.OK
}

// Dual returns the echelon form of all lists whose product with each row is 0; ErrField; or what Echelon returns.
func Dual(order int, rows [][]int) ([][]int, api.Errno) {
	l, e := newLinear(order, rows)
	if e != api.OK {
		return nil, e
	}
	firsts := l.firsts()
	var lists [][]int
	for column := range l.columns {
		if slices.Contains(firsts, column) {
			continue
		}
		// The elements in all other columns but the first ones of rows are 0, and those balance the 1 in this column.
		list := make([]int, l.columns)
		list[column] = 1
		for i, row := range l.rows {
			list[firsts[i]] = l.f.Sub(0, row[column])
		}
		lists = append(lists, list)
	}
	return l.f.Echelon(lists)
}
