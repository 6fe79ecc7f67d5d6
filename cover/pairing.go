package cover

import (
	"slices"

	"dauber/api"
)

const maxWishes = 64

// Pairing returns a pairing; ErrLong if there are more than 64 wishes; ErrArg if one has a number that is not from 0 to 63, or one twice; or ErrNone if there is no pairing.
func Pairing(wishes [][]int) ([]int, api.Errno) {
	sets, e := readWishes(wishes)
	if e != api.OK {
		return nil, e
	}
	pairing, violator := pair(sets)
	if violator != 0 {
		return nil, api.ErrNone
	}
	return pairing, api.OK
}

// Violator returns a violator of wishes without a pairing.
func Violator(wishes [][]int) ([]int, bool) {
	sets, e := readWishes(wishes)
	if e != api.OK {
		return nil, false
	}
	_, violator := pair(sets)
	return slices.Collect(violator.numbers()), violator != 0
}

func readWishes(wishes [][]int) ([]set, api.Errno) {
	if len(wishes) > maxWishes {
		return nil, api.ErrLong
	}
	sets := make([]set, len(wishes))
	for w, list := range wishes {
		s, is := readSet(list, maxNumbers)
		if !is {
			return nil, api.ErrArg
		}
		sets[w] = s
	}
	return sets, api.OK
}

// pair returns a pairing of at most 64 wishes, or a violator.
func pair(wishes []set) ([]int, set) {
	pairing := make([]int, len(wishes))
	var owner [maxNumbers]int
	var owned, tried, reached set // numbers that have an owner; numbers and wishes of the search for one wish
	var grow func(w int) bool     // it gives w a number; if that has an owner, this one gets another number
	grow = func(w int) bool {
		reached |= only(w)
		for x := range wishes[w].numbers() {
			if tried.has(x) {
				continue
			}
			tried |= only(x)
			if !owned.has(x) || grow(owner[x]) {
				owned |= only(x)
				owner[x], pairing[w] = w, x
				return true
			}
		}
		return false
	}
	for w := range wishes {
		tried, reached = 0, 0
		if !grow(w) {
			// All numbers of the wishes that were reached have an owner among them, and w is none.
			return nil, reached
		}
	}
	return pairing, 0
}
