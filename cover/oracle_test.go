package cover_test

import (
	"math/big"
	"math/rand/v2"
	"reflect"
	"slices"
	"testing"

	"dauber/api"
	"dauber/cover"
)

// The tests compare the package with an oracle that calculates by the definitions: it tries all tables, pairings and lists of options.

func newRandom() *rand.Rand {
	return rand.New(rand.NewPCG(5, 10))
}

func total(list []int) int {
	sum := 0
	for _, x := range list {
		sum += x
	}
	return sum
}

// repeated returns a list of n equal numbers.
func repeated(x, n int) []int {
	return slices.Repeat([]int{x}, n)
}

// from returns the n numbers from first on.
func from(first, n int) []int {
	list := make([]int, n)
	for i := range list {
		list[i] = first + i
	}
	return list
}

// listsOf returns all lists of n numbers from 0 to limit - 1, in order.
func listsOf(n, limit int) [][]int {
	if n == 0 {
		return [][]int{nil}
	}
	var all [][]int
	for _, shorter := range listsOf(n-1, limit) {
		for x := range limit {
			all = append(all, append(slices.Clone(shorter), x))
		}
	}
	return all
}

// isTable is the definition of a table.
func isTable(table [][]int, rows, columns []int) bool {
	sums := make([]int, len(columns))
	if len(table) != len(rows) {
		return false
	}
	for r, row := range table {
		if len(row) != len(columns) || total(row) != rows[r] {
			return false
		}
		for c, x := range row {
			if x != 0 && x != 1 {
				return false
			}
			sums[c] += x
		}
	}
	return slices.Equal(sums, columns)
}

// hasTable tries all tables.
func hasTable(rows, columns []int) bool {
	if len(rows) == 0 {
		return slices.Equal(columns, repeated(0, len(columns)))
	}
	for _, row := range listsOf(len(columns), 2) {
		rest := slices.Clone(columns)
		for c, x := range row {
			rest[c] -= x
		}
		if total(row) == rows[0] && (len(rest) == 0 || slices.Min(rest) >= 0) && hasTable(rows[1:], rest) {
			return true
		}
	}
	return false
}

// isGap is the definition of a gap, for sums that are in their range.
func isGap(rows, columns []int, k int) bool {
	if k == -1 {
		return total(rows) != total(columns)
	}
	if k < 0 || k > len(rows) {
		return false
	}
	falling := slices.Clone(rows)
	slices.SortFunc(falling, func(a, b int) int { return b - a })
	room := 0
	for _, s := range columns {
		if s < k {
			room += s
		} else {
			room += k
		}
	}
	return total(falling[:k]) > room
}

func isPairing(pairing []int, wishes [][]int) bool {
	given := map[int]bool{}
	for w, x := range pairing {
		if w >= len(wishes) || !slices.Contains(wishes[w], x) || given[x] {
			return false
		}
		given[x] = true
	}
	return len(pairing) == len(wishes)
}

// hasPairing tries all pairings of the wishes that do not use the given numbers.
func hasPairing(wishes [][]int, given map[int]bool) bool {
	if len(wishes) == 0 {
		return true
	}
	for _, x := range wishes[0] {
		if !given[x] {
			given[x] = true
			is := hasPairing(wishes[1:], given)
			delete(given, x)
			if is {
				return true
			}
		}
	}
	return false
}

func isViolator(violator []int, wishes [][]int) bool {
	numbers := map[int]bool{}
	for i, w := range violator {
		if w < 0 || w >= len(wishes) || i > 0 && w <= violator[i-1] {
			return false
		}
		for _, x := range wishes[w] {
			numbers[x] = true
		}
	}
	return len(numbers) < len(violator)
}

// coversOf returns all covers in their order: it goes through all options, with and without each of them.
func coversOf(p cover.Problem) [][]int {
	var all [][]int
	var extend func(o int, taken []int, covered []bool)
	extend = func(o int, taken []int, covered []bool) {
		if !slices.Contains(covered, false) {
			all = append(all, slices.Clone(taken))
			return
		}
		if o == len(p.Options) {
			return
		}
		more := slices.Clone(covered)
		fits := len(p.Options[o]) > 0
		for _, i := range p.Options[o] {
			fits = fits && !covered[i]
			more[i] = true
		}
		if fits {
			extend(o+1, append(taken, o), more)
		}
		extend(o+1, taken, covered)
	}
	extend(0, nil, make([]bool, p.Items))
	return all
}

func isCover(p cover.Problem, list []int) bool {
	var items []int
	for i, o := range list {
		if o < 0 || o >= len(p.Options) || i > 0 && o <= list[i-1] || len(p.Options[o]) == 0 {
			return false
		}
		items = append(items, p.Options[o]...)
	}
	slices.Sort(items)
	return slices.Equal(items, from(0, p.Items))
}

// refutes is the definition of a right refutation, for a valid problem.
func refutes(p cover.Problem, l []cover.Node) bool {
	return len(l) > 0 && checks(p, l, 0, make([]bool, p.Items))
}

func checks(p cover.Problem, l []cover.Node, n int, covered []bool) bool {
	node := l[n]
	if node.Item < 0 || node.Item >= p.Items || covered[node.Item] {
		return false
	}
	count := 0
	for _, option := range p.Options {
		if !slices.Contains(option, node.Item) || slices.ContainsFunc(option, func(i int) bool { return covered[i] }) {
			continue
		}
		if count == len(node.Next) || node.Next[count] <= n || node.Next[count] >= len(l) {
			return false
		}
		more := slices.Clone(covered)
		for _, i := range option {
			more[i] = true
		}
		if !checks(p, l, node.Next[count], more) {
			return false
		}
		count++
	}
	return count == len(node.Next)
}

// composes is the definition of a decomposition, for a valid matrix.
func composes(m [][]int64, l []cover.Part) bool {
	sums := make([][]*big.Int, len(m))
	for i := range sums {
		for range m {
			sums[i] = append(sums[i], new(big.Int))
		}
	}
	for _, part := range l {
		if part.Weight <= 0 || !slices.Equal(slices.Sorted(slices.Values(part.Perm)), from(0, len(m))) {
			return false
		}
		for i, j := range part.Perm {
			sums[i][j].Add(sums[i][j], big.NewInt(part.Weight))
		}
	}
	for i, row := range m {
		for j, x := range row {
			if sums[i][j].Cmp(big.NewInt(x)) != 0 {
				return false
			}
		}
	}
	return true
}

// isTicket is the definition of what concerns one ticket.
func isTicket(t cover.Ticket) bool {
	for _, row := range t {
		count := 0
		for _, n := range row {
			if n != 0 {
				count++
			}
		}
		if count != 5 {
			return false
		}
	}
	for c := range 9 {
		low, high := 10*c, 10*c+9
		switch c {
		case 0:
			low = 1
		case 8:
			high = 90
		}
		var column []int
		for r := range 3 {
			if n := t[r][c]; n != 0 {
				column = append(column, n)
			}
		}
		for i, n := range column {
			if n < low || n > high || i > 0 && n <= column[i-1] {
				return false
			}
		}
		if len(column) < 1 {
			return false
		}
	}
	return true
}

// numbersOf returns the numbers of tickets, rising.
func numbersOf(tickets []cover.Ticket) []int {
	var list []int
	for _, t := range tickets {
		for _, row := range t {
			for _, n := range row {
				if n != 0 {
					list = append(list, n)
				}
			}
		}
	}
	slices.Sort(list)
	return list
}

// isStrip is the definition of a strip.
func isStrip(s [6]cover.Ticket) bool {
	for _, t := range s {
		if !isTicket(t) {
			return false
		}
	}
	return slices.Equal(numbersOf(s[:]), from(1, 90))
}

// leftOf returns how many numbers of each column are not on the tickets.
func leftOf(tickets []cover.Ticket) [9]int {
	left := [9]int{9, 10, 10, 10, 10, 10, 10, 10, 11}
	for _, n := range numbersOf(tickets) {
		left[min(n/10, 8)]--
	}
	return left
}

// canDeal tries all ways to deal so many numbers of each column to that many tickets: one to three of each column to each ticket, 15 in all. (Every such ticket has five numbers in each row in some way.)
func canDeal(left [9]int, missing int, known map[[10]int]bool) bool {
	if missing == 0 {
		return left == [9]int{}
	}
	slices.Sort(left[:])
	if left[0] < missing || left[8] > 3*missing {
		return false // each ticket must have one of each column, and cannot have more than three
	}
	key := [10]int(append(left[:], missing))
	is, done := known[key]
	if done {
		return is
	}
	var choose func(c, rest int) bool
	choose = func(c, rest int) bool {
		if c == 9 {
			return rest == 0 && canDeal(left, missing-1, known)
		}
		for share := 1; share <= min(3, rest, left[c]); share++ {
			left[c] -= share
			is := choose(c+1, rest-share)
			left[c] += share
			if is {
				return true
			}
		}
		return false
	}
	known[key] = choose(0, 15)
	return known[key]
}

func sameRows(a, b [][]int) bool {
	return slices.EqualFunc(a, b, func(x, y []int) bool { return slices.Equal(x, y) })
}

func expectList(t *testing.T, what string, got []int, e api.Errno, want []int) {
	t.Helper()
	if e != api.OK || !slices.Equal(got, want) {
		t.Errorf("%s: %v, %d; want %v", what, got, e, want)
	}
}

func expectRows(t *testing.T, what string, got [][]int, e api.Errno, want [][]int) {
	t.Helper()
	if e != api.OK || !sameRows(got, want) {
		t.Errorf("%s: %v, %d; want %v", what, got, e, want)
	}
}

func expectNumber(t *testing.T, what string, got int, e api.Errno, want int) {
	t.Helper()
	if e != api.OK || got != want {
		t.Errorf("%s: %d, %d; want %d", what, got, e, want)
	}
}

// expectError checks the error, and that each of the results beside it is a zero value or empty.
func expectError(t *testing.T, what string, e, want api.Errno, results ...any) {
	t.Helper()
	if e != want {
		t.Errorf("%s: error %d; want %d", what, e, want)
	}
	expectNothing(t, what, results...)
}

func expectNothing(t *testing.T, what string, results ...any) {
	t.Helper()
	for _, result := range results {
		v := reflect.ValueOf(result)
		if v.Kind() == reflect.Slice && v.Len() > 0 || v.Kind() != reflect.Slice && !v.IsZero() {
			t.Errorf("%s: %v where there is no result", what, result)
		}
	}
}
