package perm

import (
	"iter"

	"dauber/api"
)

// maxElements is the greatest order of groups of which all elements are gone through.
const maxElements = 50000

// elements yields all elements in their order.
func (g *Group) elements() iter.Seq[permutation] {
	return func(yield func(permutation) bool) {
		g.choose(0, identity(), yield)
	}
}

// choose yields the elements that are products of one of level i and p, in their order. Those that go to the same points before i have the same p, and their next point is where p brings a point of the orbit.
func (g *Group) choose(i int, p permutation, yield func(permutation) bool) bool {
	for i < g.points && len(g.levels[i].points) == 1 {
		i++
	}
	if i == g.points {
		return yield(p)
	}
	l := &g.levels[i]
	for x := range l.choices(p) {
		if !g.choose(i+1, l.bringer[x].then(p), yield) {
			return false
		}
	}
	return true
}

// inTurn yields the levels, each with the number of elements that the ones after it have.
func (g *Group) inTurn() iter.Seq2[*level, int64] {
	return func(yield func(*level, int64) bool) {
		rest := g.Order()
		for i := range g.levels {
			rest /= int64(len(g.levels[i].points))
			if !yield(&g.levels[i], rest) {
				return
			}
		}
	}
}

// Element returns the element before which k elements come, or ErrArg.
func (g *Group) Element(k int64) ([]int, api.Errno) {
	switch {
	case g == nil:
		return nil, api.ErrNil
	case k < 0 || k >= g.Order():
		return nil, api.ErrArg
	}
	p := identity()
	for l, rest := range g.inTurn() {
		for x := range l.choices(p) {
			if k < rest {
				p = l.bringer[x].then(p)
				break
			}
			k -= rest
		}
	}
	return p.list(g.points), api.OK
}

// Place returns the number of elements that come before p; ErrPerm; ErrShape; or ErrNone if p is not an element.
func (g *Group) Place(p []int) (int64, api.Errno) {
	goals, e := g.goals(p)
	if e != api.OK {
		return 0, e
	}
	var place int64
	chosen := identity()
	for l, rest := range g.inTurn() {
		goal := goals[l.point]
		for x := range l.choices(chosen) {
			if x == goal {
				break
			}
			place += rest
		}
		chosen = l.bringer[goal].then(chosen)
	}
	return place, api.OK
}

// Conjugate returns the first element p for which p^-1 a p is b; ErrPerm; ErrShape; ErrNone if a or b is not an element; ErrLarge if the group has more than 50000 elements; or ErrNone if there is no such p.
func (g *Group) Conjugate(a, b []int) ([]int, api.Errno) {
	both, e := g.read(a, b)
	if e != api.OK {
		return nil, e
	}
	for _, p := range both {
		if _, is := g.sift(0, p); !is {
			return nil, api.ErrNone
		}
	}
	if g.Order() > maxElements {
		return nil, api.ErrLarge
	}
	for p := range g.elements() {
		if both[0].then(p) == p.then(both[1]) {
			return p.list(g.points), api.OK
		}
	}
	return nil, api.ErrNone
}
