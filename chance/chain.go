package chance

import (
	"slices"

	"dauber/api"
	"dauber/tally"
)

// chain has a row for each state, with the chances of the states after it.
type chain [][]tally.Rat

// Check returns ErrArg if there are no states, ErrLong if there are too many, ErrShape if a row does not have an element for each state, or ErrChain if p is no valid chain otherwise.
func Check(p [][]tally.Rat) api.Errno {
	switch {
	case len(p) == 0:
		return api.ErrArg
	case len(p) > api.MaxStates:
		return api.ErrLong
	}
	for _, row := range p {
		if len(row) != len(p) {
			return api.ErrShape
		}
	}
	if !chain(p).hasChances() || slices.Contains(chain(p).ending(), false) {
		return api.ErrChain
	}
	return api.OK
}

// hasChances reports whether each row has chances that are short enough and add up to 1.
func (c chain) hasChances() bool {
	for _, row := range c {
		var total tally.Rat
		for _, chance := range row {
			if chance.Sign() < 0 || !isShort(chance) {
				return false
			}
			total = plus(total, chance)
		}
		if total.Cmp(ratio(1, 1)) != 0 {
			return false
		}
	}
	return true
}

// ends tells of each state whether it is an end.
func (c chain) ends() []bool {
	ends := make([]bool, len(c))
	for i, row := range c {
		ends[i] = row[i].Cmp(ratio(1, 1)) == 0
	}
	return ends
}

// ending tells of each state whether an end can be reached from it.
func (c chain) ending() []bool {
	ending := c.ends()
	for range c {
		for i, row := range c {
			for j, chance := range row {
				ending[i] = ending[i] || chance.Sign() > 0 && ending[j]
			}
		}
	}
	return ending
}

// Ends returns the ends, rising; or the error of Check.
func Ends(p [][]tally.Rat) ([]int, api.Errno) {
	if e := Check(p); e != api.OK {
		return nil, e
	}
	return placesOf(chain(p).ends(), true), api.OK
}

func placesOf(list []bool, what bool) []int {
	var places []int
	for i, x := range list {
		if x == what {
			places = append(places, i)
		}
	}
	return places
}

// Absorb returns for each state the chances with which the chain reaches each of the ends; or the error of Check.
func Absorb(p [][]tally.Rat) ([][]tally.Rat, api.Errno) {
	if e := Check(p); e != api.OK {
		return nil, e
	}
	return chain(p).absorb(), api.OK
}

func (c chain) absorb() [][]tally.Rat {
	ends := c.ends()
	list := placesOf(ends, true)
	gains := make([][]tally.Rat, len(c))
	for i := range c {
		gains[i] = make([]tally.Rat, len(list))
		if k := slices.Index(list, i); k >= 0 {
			gains[i][k] = ratio(1, 1)
		}
	}
	return c.averagesOfAll(gains, ends)
}

// Steps returns how many steps it takes on the average from each state until an end is reached; or the error of Check.
func Steps(p [][]tally.Rat) ([]tally.Rat, api.Errno) {
	if e := Check(p); e != api.OK {
		return nil, e
	}
	return chain(p).steps(), api.OK
}

func (c chain) steps() []tally.Rat {
	gains := make([]tally.Rat, len(c))
	ends := c.ends()
	for _, i := range placesOf(ends, false) {
		gains[i] = ratio(1, 1)
	}
	return c.averages(gains, ends)
}

// averages returns what is gained on the average from each state on, if each state that the chain comes to has a gain, and the chain stops where stops is true, which it is at all ends.
func (c chain) averages(gains []tally.Rat, stops []bool) []tally.Rat {
	rows := make([][]tally.Rat, len(gains))
	for i, gain := range gains {
		rows[i] = []tally.Rat{gain}
	}
	return slices.Concat(c.averagesOfAll(rows, stops)...)
}

// averagesOfAll does the same for rows of gains of several kinds. The chain stops at last from wherever it is; therefore the determinants of the first equations and unknowns, however many, are greater than 0.
func (c chain) averagesOfAll(gains [][]tally.Rat, stops []bool) [][]tally.Rat {
	equations := make([][]tally.Rat, len(c))
	for i, row := range c {
		equation := make([]tally.Rat, len(c))
		for j, chance := range row {
			if !stops[i] {
				equation[j] = chance.Neg()
			}
		}
		equation[i] = plus(equation[i], ratio(1, 1))
		equations[i] = append(equation, gains[i]...)
	}
	return solve(equations)
}
