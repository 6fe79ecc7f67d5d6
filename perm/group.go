package perm

import (
	"slices"

	"dauber/api"
)

const maxGenerators = 16

// Group is a group of permutations of the points 0, .., points - 1.
type Group struct {
	points     int
	generators []permutation
	levels     []level
	steps      []step // by which the bringers of the levels are made
}

// level is for the elements that leave the points before its number where they are. Its orbit is that of the point with its number.
type level struct {
	orbit
	numbers [api.MaxPoints]int // of the steps that make the bringers
}

// New returns the group of the generators; ErrPerm if n is not from 1 to api.MaxPoints, or a generator is no permutation of n points; or ErrLong if there are more than 16.
func New(n int, generators [][]int) (*Group, api.Errno) {
	if n < 1 || n > api.MaxPoints {
		return nil, api.ErrPerm
	}
	for _, list := range generators {
		if len(list) != n || Check(list) != api.OK {
			return nil, api.ErrPerm
		}
	}
	if len(generators) > maxGenerators {
		return nil, api.ErrLong
	}
	b := newBuilder(n)
	for _, list := range generators {
		p, _ := read(list)
		b.generate(p)
	}
	return b.Group, api.OK
}

// Points returns the number of points; 0 of a nil group.
func (g *Group) Points() int {
	if g == nil {
		return 0
	}
	return g.points
}

// Order returns the number of elements; 0 of a nil group.
func (g *Group) Order() int64 {
	if g == nil {
		return 0
	}
	order := int64(1)
	for i := range g.levels {
		order *= int64(len(g.levels[i].points))
	}
	return order
}

// Has reports whether p is an element.
func (g *Group) Has(p []int) bool {
	_, e := g.goals(p)
	return e == api.OK
}

// Strong returns a strong list: all bringers of all levels.
func (g *Group) Strong() [][]int {
	if g == nil {
		return nil
	}
	var list [][]int
	for i := range g.levels {
		// The first point of an orbit is the level's own, which the identity brings there.
		for _, x := range g.levels[i].points[1:] {
			list = append(list, g.levels[i].bringer[x].list(g.points))
		}
	}
	return list
}

// Orbits returns the orbits, each rising, ordered by their least points.
func (g *Group) Orbits() [][]int {
	if g == nil {
		return nil
	}
	var orbits [][]int
	var seen [api.MaxPoints]bool
	for point := range g.points {
		if seen[point] {
			continue
		}
		orbit := slices.Sorted(slices.Values(g.orbitOf(point).points))
		for _, x := range orbit {
			seen[x] = true
		}
		orbits = append(orbits, orbit)
	}
	return orbits
}

// orbitOf returns the orbit of any point under all elements.
func (g *Group) orbitOf(point int) orbit {
	o := newOrbit(point)
	for k := 0; k < len(o.points); k++ {
		for _, p := range g.generators {
			q := o.bringer[o.points[k]].then(p)
			if !o.has[o.goal(q)] {
				o.reach(q)
			}
		}
	}
	return o
}

// sift returns the goals by which p, which leaves the points before i where they are, goes through the levels from i on; and whether it goes through all of them, as just the elements do. Such a p is the product of the bringers of the goals, that of the last level first.
func (g *Group) sift(i int, p permutation) ([api.MaxPoints]int, bool) {
	var goals [api.MaxPoints]int
	for ; i < g.points; i++ {
		l := &g.levels[i]
		goals[i] = l.goal(p)
		if !l.has[goals[i]] {
			return goals, false
		}
		p = l.back(p)
	}
	return goals, true
}

// read returns permutations of the group's points; ErrNil; ErrPerm if a list is none; or ErrShape.
func (g *Group) read(lists ...[]int) ([]permutation, api.Errno) {
	if g == nil {
		return nil, api.ErrNil
	}
	permutations, e := readSame(lists...)
	if e != api.OK {
		return nil, e
	}
	if len(lists[0]) != g.points {
		return nil, api.ErrShape
	}
	return permutations, api.OK
}

// goals returns what sift returns of an element; what read returns; or ErrNone if p is not an element.
func (g *Group) goals(p []int) ([api.MaxPoints]int, api.Errno) {
	var none [api.MaxPoints]int
	one, e := g.read(p)
	if e != api.OK {
		return none, e
	}
	goals, is := g.sift(0, one[0])
	if !is {
		return none, api.ErrNone
	}
	return goals, api.OK
}
