package cover

import "slices"

// Ticket is three rows of nine places, 0 for an empty one.
type Ticket [3][9]int

const (
	greatest = 90
	inRow    = 5 // numbers in a row
	inTicket = 3 * inRow
	inStrip  = 6 // tickets
	inColumn = 3 // at most
)

// numbers tells of each number whether it is there; of 0 it does not.
type numbers [greatest + 1]bool

// columnOf returns the column of a number.
func columnOf(n int) int {
	return min(n/10, 8)
}

// IsTicket reports whether t has five numbers in each row, and one to three in each column, in its range, rising from above.
func IsTicket(t Ticket) bool {
	var rows [3]int
	var columns [9]int
	var has numbers
	for r, row := range t {
		for c, n := range row {
			switch {
			case n == 0:
				continue
			case n < 0 || n > greatest:
				return false
			}
			rows[r]++
			columns[c]++
			has[n] = true
		}
	}
	return rows == [3]int{inRow, inRow, inRow} && !slices.Contains(columns[:], 0) && t == t.arranged(has)
}

// arranged returns the ticket that has the same places, in each column filled with the numbers of its range, rising from above.
func (t Ticket) arranged(has numbers) Ticket {
	var arranged Ticket
	var next [9]int // of each column, the row after the last one that is filled
	for n, is := range has {
		if !is {
			continue
		}
		c := columnOf(n)
		for next[c] < len(t) && t[next[c]][c] == 0 {
			next[c]++
		}
		if next[c] < len(t) {
			arranged[next[c]][c] = n
			next[c]++
		}
	}
	return arranged
}

// IsStrip reports whether s is a strip.
func IsStrip(s [6]Ticket) bool {
	// Six tickets have 90 numbers, so that all are there if none is there twice.
	_, is := used(s[:])
	return is
}

// used returns the numbers of the tickets; or false if one is no ticket, or a number occurs twice.
func used(tickets []Ticket) (numbers, bool) {
	var has numbers
	for _, t := range tickets {
		if !IsTicket(t) {
			return numbers{}, false
		}
		for _, row := range t {
			for _, n := range row {
				if has[n] {
					return numbers{}, false
				}
				has[n] = n > 0
			}
		}
	}
	return has, true
}
