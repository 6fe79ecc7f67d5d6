package hall

import (
	"slices"

	"dauber/api"
	"dauber/cover"
)

// tickets is how many a strip has.
const tickets = 6

// strip has for each of its tickets the player to whom it was sold; the empty name if it was not.
type strip struct {
	tickets [tickets]cover.Ticket
	players [tickets]string
}

// place is where a ticket is: a strip, and a number from 1 on.
type place struct {
	strip  string
	number int64
}

func (p place) isOnStrip() bool {
	return p.number >= 1 && p.number <= tickets
}

// makeStrip makes a strip from a seed.
func (n *Night) makeStrip(name string, seed int64) (string, error) {
	if _, is := n.strips[name]; is || len(n.calls) > 0 {
		return refuse(api.ErrState)
	}
	n.strips[name] = strip{tickets: cover.Strip(uint64(seed))}
	return ok, nil
}

// sell gives a ticket to a player.
func (n *Night) sell(at place, player string) (string, error) {
	s, is := n.strips[at.strip]
	switch {
	case !is:
		return refuse(api.ErrNone)
	case !at.isOnStrip():
		return refuse(api.ErrArg)
	case s.players[at.number-1] != "" || len(n.calls) > 0:
		return refuse(api.ErrState)
	}
	s.players[at.number-1] = player
	n.strips[at.strip] = s
	return ok, nil
}

// ticket returns the ticket that is there, and its player; or ErrNone.
func (n *Night) ticket(at place) (t cover.Ticket, player string, e error) {
	s, is := n.strips[at.strip]
	if !is || !at.isOnStrip() {
		return cover.Ticket{}, "", refusal(api.ErrNone)
	}
	return s.tickets[at.number-1], s.players[at.number-1], nil
}

// missing returns how many of the numbers, of which 0 is none, are not called.
func missing(numbers, calls []int) int {
	count := 0
	for _, number := range numbers {
		if number != 0 && !slices.Contains(calls, number) {
			count++
		}
	}
	return count
}

// fullRows returns of how many rows all numbers are called.
func fullRows(t cover.Ticket, calls []int) int {
	count := 0
	for _, row := range t {
		if missing(row[:], calls) == 0 {
			count++
		}
	}
	return count
}

// numbersOf returns the numbers of a ticket, row by row, and 0 for each empty place.
func numbersOf(t cover.Ticket) []int {
	var list []int
	for _, row := range t {
		list = append(list, row[:]...)
	}
	return list
}
