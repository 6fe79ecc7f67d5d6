package cover_test

import (
	"fmt"
	"math"
	"math/rand/v2"
	"slices"
	"testing"

	"dauber/api"
	"dauber/cover"
)

// example is a ticket, with three numbers in the columns 0, 3 and 8.
var example = cover.Ticket{
	{1, 0, 0, 30, 0, 50, 0, 70, 80},
	{5, 10, 0, 36, 0, 0, 60, 0, 85},
	{9, 0, 20, 39, 40, 0, 0, 0, 90},
}

// with returns the ticket with another number at a place.
func with(t cover.Ticket, row, column, n int) cover.Ticket {
	t[row][column] = n
	return t
}

// P5.6: strips of many seeds; the same one for the same seed.
func TestStrips(t *testing.T) {
	r := newRandom()
	seeds := []uint64{0, 1, 2, 1 << 63, math.MaxInt64, math.MaxUint64, math.MaxUint64 - 1}
	for range 2000 {
		seeds = append(seeds, r.Uint64())
	}
	for _, seed := range seeds {
		s := cover.Strip(seed)
		if !isStrip(s) || !cover.IsStrip(s) {
			t.Errorf("Strip(%d): %v is none", seed, s)
		}
		if cover.Strip(seed) != s {
			t.Errorf("Strip(%d) is not the same again", seed)
		}
		for _, one := range s {
			if !cover.IsTicket(one) {
				t.Errorf("Strip(%d): %v is no ticket", seed, one)
			}
		}
	}
}

// P5.6: tickets that are none: numbers twice, out of their columns' ranges, not rising, empty columns, wrong rows.
func TestTickets(t *testing.T) {
	twoRows := example
	twoRows[2] = [9]int{}
	moved := with(with(example, 0, 5, 0), 0, 6, 55)
	for _, x := range []struct {
		what string
		t    cover.Ticket
		want bool
	}{
		{"example", example, true},
		{"no numbers", cover.Ticket{}, false},
		{"two rows", twoRows, false},
		{"two rows, exchanged", cover.Ticket{example[0], example[2], example[1]}, false},
		{"falling rows", cover.Ticket{example[2], example[1], example[0]}, false},
		{"four numbers in a row", with(example, 1, 6, 0), false},
		{"six numbers in a row", with(example, 1, 2, 19), false},
		{"six numbers in a row, rising", with(example, 1, 4, 39), false},
		{"six numbers, in their ranges", with(example, 0, 4, 40), false},
		{"six numbers, one of another column", with(example, 0, 1, 20), false},
		{"six numbers in one row, four in another one", with(with(example, 0, 1, 11), 1, 1, 0), false},
		{"an empty column", with(with(example, 1, 6, 0), 1, 4, 41), false},
		{"a number twice", with(example, 1, 0, 1), false},
		{"a number twice, in the last column", with(example, 2, 8, 85), false},
		{"a number twice, in two columns", with(example, 1, 1, 5), false},
		{"not rising", with(example, 0, 3, 37), false},
		{"not rising at the end", with(example, 2, 3, 35), false},
		{"the least number of the column 0", with(example, 0, 0, 0), false},
		{"another number of the column 0", with(example, 1, 0, 8), true},
		{"10 in the column 0", with(example, 2, 0, 10), false},
		{"11 in the column 0", with(example, 2, 0, 11), false},
		{"9 in the column 1", with(example, 1, 1, 9), false},
		{"19 in the column 1", with(example, 1, 1, 19), true},
		{"20 in the column 1", with(example, 1, 1, 20), false},
		{"29 in the column 2", with(example, 2, 2, 29), true},
		{"30 in the column 2", with(example, 2, 2, 30), false},
		{"19 in the column 2", with(example, 2, 2, 19), false},
		{"49 in the column 4", with(example, 2, 4, 49), true},
		{"50 in the column 4", with(example, 2, 4, 50), false},
		{"69 in the column 6", with(example, 1, 6, 69), true},
		{"70 in the column 6", with(example, 1, 6, 70), false},
		{"79 in the column 7", with(example, 0, 7, 79), true},
		{"80 in the column 7", with(example, 0, 7, 80), false},
		{"79 in the column 8", with(example, 0, 8, 79), false},
		{"89 in the column 8", with(example, 1, 8, 89), true},
		{"91 in the column 8", with(example, 2, 8, 91), false},
		{"99 in the column 8", with(example, 2, 8, 99), false},
		{"-1", with(example, 0, 0, -1), false},
		{"-70", with(example, 0, 7, -70), false},
		{"the greatest int", with(example, 2, 8, math.MaxInt), false},
		{"the least int", with(example, 0, 0, math.MinInt), false},
		{"a number in another column", moved, false},
	} {
		if isTicket(x.t) != x.want {
			t.Errorf("%s: the oracle finds a ticket: %v", x.what, !x.want)
		}
		expectTicket(t, x.what, x.t, x.want)
	}
}

// expectTicket checks IsTicket, and Complete of what is no ticket.
func expectTicket(t *testing.T, what string, ticket cover.Ticket, want bool) {
	t.Helper()
	if cover.IsTicket(ticket) != want {
		t.Errorf("%s: IsTicket(%v) is not %v", what, ticket, want)
	}
	if !want {
		s, e := cover.Complete([]cover.Ticket{ticket})
		expectError(t, what, e, api.ErrArg, s)
	}
}

// P5.6: random tickets with a change, against the definition.
func TestChangedTickets(t *testing.T) {
	r := newRandom()
	count := map[bool]int{}
	for range 20000 {
		ticket := cover.Strip(r.Uint64N(1000))[r.IntN(6)]
		changeTicket(r, &ticket)
		want := isTicket(ticket)
		count[want]++
		expectTicket(t, "a changed ticket", ticket, want)
	}
	if count[true] < 1000 || count[false] < 1000 {
		t.Errorf("tickets or others are too few: %v", count)
	}
}

func changeTicket(r *rand.Rand, t *cover.Ticket) {
	row, other, column := r.IntN(3), r.IntN(3), r.IntN(9)
	switch r.IntN(4) {
	case 0:
		t[row][column] = r.IntN(93) - 1
	case 1:
		t[row][column] = 10*column + r.IntN(10)
	case 2:
		t[row][column], t[other][column] = t[other][column], t[row][column]
	case 3:
		to := r.IntN(9)
		t[row][column], t[row][to], t[other][column], t[other][to] = 0, 10*to+r.IntN(10), 10*column+r.IntN(10), 0
	}
}

// P5.6: strips with a change, against the definition.
func TestChangedStrips(t *testing.T) {
	r := newRandom()
	count := map[bool]int{}
	for range 5000 {
		s := cover.Strip(r.Uint64N(1000))
		a, b := &s[r.IntN(6)], &s[r.IntN(6)]
		row, other, column := r.IntN(3), r.IntN(3), r.IntN(9)
		switch r.IntN(4) {
		case 0:
			*a, *b = *b, *a
		case 1:
			a[row][column], b[other][column] = b[other][column], a[row][column]
		case 2:
			changeTicket(r, a)
		case 3:
			*a = *b
		}
		want := isStrip(s)
		count[want]++
		if cover.IsStrip(s) != want {
			t.Errorf("IsStrip(%v) is not %v", s, want)
		}
	}
	if count[true] < 500 || count[false] < 500 {
		t.Errorf("strips or others are too few: %v", count)
	}
	if cover.IsStrip([6]cover.Ticket{}) || cover.IsStrip([6]cover.Ticket{example, example, example, example, example, example}) {
		t.Error("IsStrip of no tickets, or of the same ones, is true")
	}
}

// expectCompletion checks Complete of tickets without a common number.
func expectCompletion(t *testing.T, tickets []cover.Ticket, want bool) {
	t.Helper()
	s, e := cover.Complete(tickets)
	if !want {
		expectError(t, fmt.Sprint("Complete of ", tickets), e, api.ErrNone, s)
		return
	}
	if e != api.OK || !isStrip(s) || !slices.Equal(s[:len(tickets)], tickets) {
		t.Errorf("Complete(%v): %v, %d", tickets, s, e)
	}
	again, e := cover.Complete(tickets)
	if e != api.OK || again != s {
		t.Errorf("Complete(%v) is not the same again", tickets)
	}
}

// P5.6: beginnings of strips that random tickets make: the oracle tries all ways to deal the numbers that are left.
func TestCompletions(t *testing.T) {
	r := newRandom()
	known := map[[10]int]bool{}
	count := map[[2]int]int{}
	for range 1500 {
		n := r.IntN(5)
		tickets := someTickets(r, n)
		want := canDeal(leftOf(tickets), 6-n, known)
		if want {
			count[[2]int{n, 1}]++
		} else {
			count[[2]int{n, 0}]++
		}
		expectCompletion(t, tickets, want)
	}
	for _, n := range []int{1, 2, 3, 4} {
		if count[[2]int{n, 1}] < 10 || n > 2 && count[[2]int{n, 0}] < 10 {
			t.Errorf("of %d tickets too few or too many have a strip: %v", n, count)
		}
	}
}

// P5.6, P5.10: each part of a strip, in any order, begins a strip; all six are one.
func TestPartsOfStrips(t *testing.T) {
	r := newRandom()
	for range 300 {
		s := cover.Strip(r.Uint64())
		for range 3 {
			r.Shuffle(6, func(i, j int) { s[i], s[j] = s[j], s[i] })
			if !cover.IsStrip(s) {
				t.Errorf("the tickets %v in another order are no strip", s)
			}
			for n := range 7 {
				expectCompletion(t, s[:n], true)
			}
			for i := range s {
				others := slices.Delete(slices.Clone(s[:]), i, i+1)
				full, e := cover.Complete(others)
				if e != api.OK || !isStrip(full) || !slices.Equal(numbersOf(full[5:]), numbersOf(s[i:i+1])) {
					t.Errorf("five tickets of a strip: %v, %d", full, e)
				}
			}
		}
	}
}

// dealt returns tickets with so many numbers of each column, the least ones that are left.
func dealt(t *testing.T, shares ...[9]int) []cover.Ticket {
	t.Helper()
	next := [9]int{1, 10, 20, 30, 40, 50, 60, 70, 80}
	var tickets []cover.Ticket
	for _, share := range shares {
		ticket := placed(share)
		for c := range 9 {
			for row := range 3 {
				if ticket[row][c] != 0 {
					ticket[row][c] = next[c]
					next[c]++
				}
			}
		}
		if !isTicket(ticket) {
			t.Fatalf("%v of each column make no ticket: %v", share, ticket)
		}
		tickets = append(tickets, ticket)
	}
	return tickets
}

// placed returns a ticket with 1 at that many places of each column: in the rows that have the fewest, the fullest columns first.
func placed(share [9]int) cover.Ticket {
	var ticket cover.Ticket
	var count [3]int
	for n := 3; n > 0; n-- {
		for c, s := range share {
			if s != n {
				continue
			}
			rows := []int{0, 1, 2}
			slices.SortStableFunc(rows, func(a, b int) int { return count[a] - count[b] })
			for _, row := range rows[:n] {
				ticket[row][c] = 1
				count[row]++
			}
		}
	}
	return ticket
}

// P5.6: tickets that leave too few or too many numbers of a column, and such as leave just as many as can be dealt.
func TestTooFewOrTooManyNumbersLeft(t *testing.T) {
	firsts := [9]int{3, 3, 3, 1, 1, 1, 1, 1, 1} // these three columns are used up by three such tickets
	lasts := [9]int{1, 1, 1, 1, 1, 1, 3, 3, 3}
	for _, x := range []struct {
		what   string
		shares [][9]int
		want   bool
	}{
		{"one ticket", [][9]int{firsts}, true},
		{"two tickets: 3 left of the column 0, for four", [][9]int{firsts, firsts}, false},
		{"two tickets: 4 left of the columns 1 and 2", [][9]int{{1, 3, 3, 3, 1, 1, 1, 1, 1}, {2, 3, 3, 1, 2, 1, 1, 1, 1}}, true},
		{"two tickets: 4 left of the column 0", [][9]int{firsts, {2, 3, 3, 2, 1, 1, 1, 1, 1}}, true},
		{"three tickets: none left of the column 0", [][9]int{firsts, firsts, firsts}, false},
		{"three tickets: 2 left of the column 0", [][9]int{firsts, {2, 2, 2, 2, 2, 2, 1, 1, 1}, {2, 2, 2, 2, 2, 2, 1, 1, 1}}, false},
		{"three tickets: 3 left of the column 0", [][9]int{{2, 1, 1, 1, 1, 1, 3, 3, 2}, {2, 1, 1, 1, 2, 2, 2, 2, 2}, {2, 2, 2, 2, 2, 2, 1, 1, 1}}, true},
		{"three tickets: 8 left of the column 8", [][9]int{{2, 2, 2, 2, 2, 2, 1, 1, 1}, {2, 2, 2, 2, 1, 1, 2, 2, 1}, {1, 1, 1, 1, 2, 2, 3, 3, 1}}, true},
		{"four tickets: 7 left of the column 8", [][9]int{{2, 2, 2, 2, 2, 2, 1, 1, 1}, {2, 2, 2, 2, 1, 1, 2, 2, 1}, {1, 1, 1, 1, 2, 2, 3, 3, 1}, {1, 1, 2, 2, 2, 2, 2, 2, 1}}, false},
		{"four tickets: 2 left of the column 0, 6 of the columns 4 and 5", [][9]int{{2, 2, 2, 2, 1, 1, 1, 2, 2}, {2, 2, 2, 2, 1, 1, 1, 2, 2}, {2, 1, 2, 2, 1, 1, 2, 2, 2}, {1, 1, 1, 2, 1, 1, 3, 2, 3}}, true},
		{"five tickets: 4 left of the column 8", [][9]int{{2, 2, 2, 2, 2, 2, 1, 1, 1}, {2, 2, 2, 2, 1, 1, 2, 2, 1}, {1, 1, 1, 1, 2, 2, 3, 3, 1}, {1, 1, 2, 2, 2, 2, 1, 1, 3}, {2, 2, 2, 2, 2, 2, 1, 1, 1}}, false},
		{"three tickets: 2 left of the column 8", [][9]int{lasts, lasts, lasts}, false},
		{"one ticket of the last columns", [][9]int{lasts}, true},
		{"two tickets of the last columns", [][9]int{lasts, lasts}, true},
	} {
		tickets := dealt(t, x.shares...)
		if canDeal(leftOf(tickets), 6-len(tickets), map[[10]int]bool{}) != x.want {
			t.Errorf("%s: the oracle can deal the others: %v", x.what, !x.want)
		}
		expectCompletion(t, tickets, x.want)
	}
}

// P5.6: the first error that P5.6 names decides.
func TestTicketErrors(t *testing.T) {
	s := cover.Strip(3)
	none := cover.Ticket{}
	blocked := dealt(t, slices.Repeat([][9]int{{3, 3, 3, 1, 1, 1, 1, 1, 1}}, 3)...)
	for _, x := range []struct {
		what    string
		tickets []cover.Ticket
		want    api.Errno
	}{
		{"no tickets", nil, api.OK},
		{"six tickets", s[:], api.OK},
		{"seven tickets", append(s[:6:6], s[0]), api.ErrLong},
		{"seven that are none", make([]cover.Ticket, 7), api.ErrLong},
		{"many tickets", make([]cover.Ticket, 1<<16), api.ErrLong},
		{"a ticket twice", []cover.Ticket{s[0], s[0]}, api.ErrArg},
		{"a ticket twice, not one after the other", []cover.Ticket{s[0], s[1], s[2], s[0]}, api.ErrArg},
		{"six tickets, one of them twice", append(s[:5:5], s[0]), api.ErrArg},
		{"an empty ticket", []cover.Ticket{none}, api.ErrArg},
		{"an empty ticket at the end", append(s[:5:5], none), api.ErrArg},
		{"an empty ticket before a number twice", []cover.Ticket{none, s[0], s[0]}, api.ErrArg},
		{"one number twice", []cover.Ticket{example, with(example, 2, 8, 89)}, api.ErrArg},
		{"too few numbers left", blocked, api.ErrNone},
		{"too few numbers left, and an empty ticket", append(blocked[:3:3], none), api.ErrArg},
		{"too few numbers left, and a ticket twice", append(blocked[:3:3], blocked[1]), api.ErrArg},
	} {
		strip, e := cover.Complete(x.tickets)
		if e != x.want {
			t.Errorf("%s: error %d; want %d", x.what, e, x.want)
		}
		if x.want != api.OK {
			expectNothing(t, x.what, strip)
		}
	}
}

// P5.6: two tickets with just one number in common.
func TestOneCommonNumber(t *testing.T) {
	r := newRandom()
	count := 0
	for range 500 {
		tickets := someTickets(r, 2)
		a, b := tickets[0], tickets[1]
		row, column := r.IntN(3), r.IntN(9)
		b[row][column] = a[row][column]
		if a[row][column] == 0 || !isTicket(b) {
			continue
		}
		count++
		for _, two := range [][]cover.Ticket{{a, b}, {b, a}} {
			s, e := cover.Complete(two)
			expectError(t, fmt.Sprint("Complete of ", two), e, api.ErrArg, s)
		}
	}
	if count < 30 {
		t.Errorf("only %d tickets had a number in common", count)
	}
}
