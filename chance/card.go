package chance

import (
	"dauber/api"
	"dauber/tally"
)

const (
	maxCalled = 90
	maxCards  = 6
)

// readCards returns the cards as sets; ErrArg if n is not from 1 to 90, ErrLong if there are not from 1 to 6 cards, or ErrPattern if one is not valid.
func readCards(n int, cards [][]int) ([]set, api.Errno) {
	switch {
	case n < 1 || n > maxCalled:
		return nil, api.ErrArg
	case len(cards) < 1 || len(cards) > maxCards:
		return nil, api.ErrLong
	}
	sets := make([]set, len(cards))
	for i, card := range cards {
		s, ok := readSet(n, card)
		if !ok {
			return nil, api.ErrPattern
		}
		sets[i] = s
	}
	return sets, api.OK
}

// Full returns the chance that some card is full after so many calls; ErrArg if n is not from 1 to 90; ErrLong if there are not from 1 to 6 cards; ErrPattern if one is not valid; or ErrArg if calls is not from 0 to n.
func Full(n int, cards [][]int, calls int) (tally.Rat, api.Errno) {
	sets, e := readCards(n, cards)
	if e != api.OK {
		return tally.Rat{}, e
	}
	if calls < 0 || calls > n {
		return tally.Rat{}, api.ErrArg
	}
	none := overSubsets(sets, func(union set) tally.Rat {
		return calledChance(n, union.size(), calls)
	})
	return minus(ratio(1, 1), none), api.OK
}

// calledChance returns the chance that so many given numbers are all among the first calls.
func calledChance(n, numbers, calls int) tally.Rat {
	with, _ := tally.Choose(n-numbers, calls-numbers)
	all, _ := tally.Choose(n, calls)
	chance, _ := tally.Make(with, all)
	return chance
}

// Calls returns after how many calls on the average the first cards are full; ErrArg if n is not from 1 to 90; ErrLong if there are not from 1 to 6 cards; or ErrPattern if one is not valid.
func Calls(n int, cards [][]int) (tally.Rat, api.Errno) {
	sets, e := readCards(n, cards)
	if e != api.OK {
		return tally.Rat{}, e
	}
	// k given numbers are all called after k (n + 1) / (k + 1) calls on the average. The least of some numbers is the sum of the greatest ones of all subsets, those of an even size with the sign -.
	return overSubsets(sets, func(union set) tally.Rat {
		k := union.size()
		return ratio(-k*(n+1), k+1)
	}), api.OK
}

// First returns for each card the chance that it is one of the first cards; ErrArg if n is not from 1 to 90; ErrLong if there are not from 1 to 6 cards; or ErrPattern if one is not valid.
func First(n int, cards [][]int) ([]tally.Rat, api.Errno) {
	sets, e := readCards(n, cards)
	if e != api.OK {
		return nil, e
	}
	chances := make([]tally.Rat, len(sets))
	for i, card := range sets {
		// All cards of a subset are full before this one if the last one called of all these numbers is on none of them; if this card is among them, that never is.
		chances[i] = overSubsets(sets, func(union set) tally.Rat {
			return ratio(card.without(union).size(), card.with(union).size())
		})
	}
	return chances, api.OK
}

// overSubsets returns the sum of what the unions of all subsets of the cards have, those of an odd size with the sign -.
func overSubsets(cards []set, of func(union set) tally.Rat) tally.Rat {
	var terms []tally.Rat
	for union := range unions(cards) {
		terms = append(terms, of(union))
	}
	return alternating(terms...)
}
