package chance

import (
	"slices"

	"dauber/api"
	"dauber/tally"
)

// Value returns the greatest average reward that some rule when to stop attains from each state; the error of Check; ErrShape if f does not have an element for each state; or ErrArg if one has more than 40 digits.
func Value(p [][]tally.Rat, f []tally.Rat) ([]tally.Rat, api.Errno) {
	if e := Check(p); e != api.OK {
		return nil, e
	}
	switch {
	case len(f) != len(p):
		return nil, api.ErrShape
	case !areShort(f):
		return nil, api.ErrArg
	}
	return chain(p).best(f), api.OK
}

// best returns the values by Howard's way. It stops everywhere at first, and then goes on from all states where that is better, as long as there are any. The values only grow, so that where it goes on it need not stop again.
func (c chain) best(f []tally.Rat) []tally.Rat {
	values := slices.Clone(f)
	stops := make([]bool, len(c))
	for i := range stops {
		stops[i] = true
	}
	improve := func() bool {
		improved := false
		for i := range c {
			if stops[i] && c.average(i, values).Cmp(f[i]) > 0 {
				stops[i], improved = false, true
			}
		}
		if improved {
			values = c.attained(f, stops)
		}
		return improved
	}
	for improve() {
	}
	return values
}

// average returns the average of the values after a step from state i.
func (c chain) average(i int, values []tally.Rat) tally.Rat {
	var total tally.Rat
	for j, chance := range c[i] {
		total = plus(total, times(chance, values[j]))
	}
	return total
}

// attained returns the average reward from each state if the chain stops where stops is true.
func (c chain) attained(f []tally.Rat, stops []bool) []tally.Rat {
	gains := make([]tally.Rat, len(c))
	for i := range c {
		if stops[i] {
			gains[i] = f[i]
		}
	}
	return c.averages(gains, stops)
}
