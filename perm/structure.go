package perm

import "dauber/api"

// isPoint reports whether the group has such a point.
func (g *Group) isPoint(x int) bool {
	return x >= 0 && x < g.points
}

// Fixing returns the group of all elements that leave the point where it is, or ErrArg.
func (g *Group) Fixing(point int) (*Group, api.Errno) {
	switch {
	case g == nil:
		return nil, api.ErrNil
	case !g.isPoint(point):
		return nil, api.ErrArg
	}
	b := newBuilder(g.points)
	o := g.orbitOf(point)
	// By Schreier's lemma the ways from point to point and back make all of the group.
	for _, x := range o.points {
		for _, p := range g.generators {
			b.generateNew(o.back(o.bringer[x].then(p)))
		}
	}
	return b.Group, api.OK
}

// Block returns the least block that has a and b, rising; ErrArg if there is no point a or b, or both are the same; or ErrNone if the orbit of 0 does not have all points.
func (g *Group) Block(a, b int) ([]int, api.Errno) {
	switch {
	case g == nil:
		return nil, api.ErrNil
	case !g.isPoint(a) || !g.isPoint(b) || a == b:
		return nil, api.ErrArg
	case len(g.levels[0].points) < g.points:
		return nil, api.ErrNone
	}
	p := newPartition()
	p.merge(a, b)
	for g.mergeImages(&p) {
	}
	var block []int
	for x := range g.points {
		if p[x] == p[a] {
			block = append(block, x)
		}
	}
	return block, api.OK
}

// mergeImages merges the parts where a generator brings points of one part. It reports whether it merged any.
func (g *Group) mergeImages(p *partition) bool {
	merged := false
	for _, q := range g.generators {
		for x := range g.points {
			if p.merge(int(q[x]), int(q[p[x]])) {
				merged = true
			}
		}
	}
	return merged
}

// partition has for each point one that stands for its part.
type partition [api.MaxPoints]int

func newPartition() partition {
	var p partition
	for i := range p {
		p[i] = i
	}
	return p
}

// merge makes the parts of x and y one part. It reports whether they were two.
func (p *partition) merge(x, y int) bool {
	from, to := p[x], p[y]
	for i, part := range p {
		if part == from {
			p[i] = to
		}
	}
	return from != to
}

// Derived returns the group that all products a^-1 b^-1 a b of elements generate.
func (g *Group) Derived() *Group {
	if g == nil {
		return nil
	}
	derived := newBuilder(g.points)
	for _, a := range g.generators {
		for _, b := range g.generators {
			derived.generateNew(a.inverse().then(b.inverse()).then(a).then(b))
		}
	}
	// The products of the generators are enough if the group brings what they generate to itself.
	for k := 0; k < len(derived.generators); k++ {
		for _, a := range g.generators {
			derived.generateNew(a.inverse().then(derived.generators[k]).then(a))
		}
	}
	return derived.Group
}

// Soluble reports whether by taking the derived group again and again one comes to the group with one element.
func (g *Group) Soluble() bool {
	if g == nil {
		return false
	}
	for g.Order() > 1 {
		derived := g.Derived()
		if derived.Order() == g.Order() {
			return false
		}
		g = derived
	}
	return true
}
