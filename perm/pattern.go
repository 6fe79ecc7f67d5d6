package perm

import (
	"slices"

	"dauber/api"
	"dauber/tally"
)

const maxColours = 100

// Patterns returns the number of patterns with that many colours, where those count once that elements bring to one another; ErrArg if colours is not from 1 to 100; or ErrLarge if the group has more than 50000 elements.
func (g *Group) Patterns(colours int) (tally.Int, api.Errno) {
	switch {
	case g == nil:
		return tally.Int{}, api.ErrNil
	case colours < 1 || colours > maxColours:
		return tally.Int{}, api.ErrArg
	case g.Order() > maxElements:
		return tally.Int{}, api.ErrLarge
	}
	// By Burnside's lemma there are as many as an element leaves as they are, on the average: those in which each of its cycles has one colour.
	var sum tally.Int
	for cycles, elements := range g.cycleCounts() {
		power, _ := tally.Of(int64(colours)).Pow(cycles)
		all, _ := power.Mul(tally.Of(elements))
		sum, _ = sum.Add(all)
	}
	patterns, _, _ := sum.Div(tally.Of(g.Order()))
	return patterns, api.OK
}

// cycleCounts returns how many elements have 0, 1, .. cycles.
func (g *Group) cycleCounts() [api.MaxPoints + 1]int64 {
	var counts [api.MaxPoints + 1]int64
	for p := range g.elements() {
		cycles := 0
		for range p.leasts(g.points) {
			cycles++
		}
		counts[cycles]++
	}
	return counts
}

// Least returns the least list to which an element brings the pattern; ErrShape if that does not have as many elements as there are points; ErrArg if a colour is negative; or ErrLarge if the group has more than 50000 elements.
func (g *Group) Least(pattern []int) ([]int, api.Errno) {
	switch {
	case g == nil:
		return nil, api.ErrNil
	case len(pattern) != g.points:
		return nil, api.ErrShape
	case slices.Min(pattern) < 0:
		return nil, api.ErrArg
	case g.Order() > maxElements:
		return nil, api.ErrLarge
	}
	least := slices.Clone(pattern)
	brought := make([]int, g.points)
	for p := range g.elements() {
		for i, colour := range pattern {
			brought[p[i]] = colour
		}
		if slices.Compare(brought, least) < 0 {
			copy(least, brought)
		}
	}
	return least, api.OK
}
