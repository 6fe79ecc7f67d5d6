package perm

import (
	"iter"

	"dauber/api"
)

// orbit is the set of points where elements of a group bring a point.
type orbit struct {
	point   int
	points  []int // in the order in which they were reached
	has     [api.MaxPoints]bool
	bringer [api.MaxPoints]permutation // the transversal: an element that brings the point there
}

func newOrbit(point int) orbit {
	o := orbit{point: point}
	o.reach(identity())
	return o
}

// goal returns where p brings the point.
func (o *orbit) goal(p permutation) int {
	return int(p[o.point])
}

// reach takes the goal of p into the orbit.
func (o *orbit) reach(p permutation) {
	x := o.goal(p)
	o.points = append(o.points, x)
	o.has[x] = true
	o.bringer[x] = p
}

// back returns the product of p and the inverse of the bringer of its goal, which is in the orbit: it leaves the point where it is.
func (o *orbit) back(p permutation) permutation {
	return p.then(o.bringer[o.goal(p)].inverse())
}

// choices yields the points of the orbit, ordered by where p brings them.
func (o *orbit) choices(p permutation) iter.Seq[int] {
	return func(yield func(int) bool) {
		for _, x := range p.inverse() {
			if o.has[x] && !yield(int(x)) {
				return
			}
		}
	}
}
