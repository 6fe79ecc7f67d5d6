package cover

import (
	"slices"

	"dauber/api"
)

const (
	maxSums = 32 // rows, and columns, of a table
	maxSum  = 32
)

// Table returns a table with these sums; ErrLong if there are more than 32 rows or columns; ErrArg if a sum is not from 0 to 32; or ErrSums if there is no table.
func Table(rows, columns []int) ([][]int, api.Errno) {
	if e := checkSums(rows, columns); e != api.OK {
		return nil, e
	}
	if _, is := leastGap(rows, columns); is {
		return nil, api.ErrSums
	}
	return fill(rows, columns), api.OK
}

// Gap returns the least gap for sums without a table.
func Gap(rows, columns []int) (int, bool) {
	if checkSums(rows, columns) != api.OK {
		return 0, false
	}
	return leastGap(rows, columns)
}

// IsGap reports whether the sums are as Table takes them, and k is a gap.
func IsGap(rows, columns []int, k int) bool {
	return checkSums(rows, columns) == api.OK && isGap(rows, columns, k)
}

func checkSums(rows, columns []int) api.Errno {
	if len(rows) > maxSums || len(columns) > maxSums {
		return api.ErrLong
	}
	for _, s := range slices.Concat(rows, columns) {
		if s < 0 || s > maxSum {
			return api.ErrArg
		}
	}
	return api.OK
}

func leastGap(rows, columns []int) (int, bool) {
	for k := -1; k <= len(rows); k++ {
		if isGap(rows, columns, k) {
			return k, true
		}
	}
	return 0, false
}

func isGap(rows, columns []int, k int) bool {
	switch {
	case k == -1:
		return total(rows) != total(columns)
	case k < 0 || k > len(rows):
		return false
	}
	room := 0 // of k rows
	for _, s := range columns {
		room += min(k, s)
	}
	rising := slices.Sorted(slices.Values(rows))
	return total(rising[len(rows)-k:]) > room
}

func total(list []int) int {
	sum := 0
	for _, x := range list {
		sum += x
	}
	return sum
}

// fill returns a table with these sums, for which there is one. If a row can be filled at all, it can with the columns that need most: a one can always be exchanged with one of a column that needs more.
func fill(rows, columns []int) [][]int {
	needs := slices.Clone(columns)
	order := make([]int, len(columns))
	for c := range order {
		order[c] = c
	}
	table := make([][]int, len(rows))
	for r, s := range rows {
		slices.SortStableFunc(order, func(a, b int) int { return needs[b] - needs[a] })
		table[r] = make([]int, len(columns))
		for _, c := range order[:s] {
			table[r][c] = 1
			needs[c]--
		}
	}
	return table
}
