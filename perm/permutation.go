package perm

import (
	"iter"

	"dauber/api"
)

// permutation has at place i where i goes. One of fewer points leaves all others where they are, so that two are compared as wholes.
type permutation [api.MaxPoints]byte

func identity() permutation {
	var p permutation
	for i := range p {
		p[i] = byte(i)
	}
	return p
}

// read returns the permutation that a list is, or ErrPerm.
func read(list []int) (permutation, api.Errno) {
	n := len(list)
	if n < 1 || n > api.MaxPoints {
		return permutation{}, api.ErrPerm
	}
	p := identity()
	var taken [api.MaxPoints]bool
	for i, x := range list {
		if x < 0 || x >= n || taken[x] {
			return permutation{}, api.ErrPerm
		}
		taken[x] = true
		p[i] = byte(x)
	}
	return p, api.OK
}

// readSame returns the permutations that lists are; ErrPerm if one is none; or ErrShape if they do not all have the same number of points.
func readSame(lists ...[]int) ([]permutation, api.Errno) {
	var permutations []permutation
	shape := api.OK
	for _, list := range lists {
		p, e := read(list)
		if e != api.OK {
			return nil, e
		}
		if len(list) != len(lists[0]) {
			shape = api.ErrShape
		}
		permutations = append(permutations, p)
	}
	if shape != api.OK {
		return nil, shape
	}
	return permutations, api.OK
}

// list returns where the points 0 to n - 1 go.
func (p permutation) list(n int) []int {
	list := make([]int, n)
	for i := range list {
		list[i] = int(p[i])
	}
	return list
}

// then returns the product: first p, then q.
func (p permutation) then(q permutation) permutation {
	for i, x := range p {
		p[i] = q[x]
	}
	return p
}

func (p permutation) inverse() permutation {
	var q permutation
	for i, x := range p {
		q[x] = byte(i)
	}
	return q
}

// cycle returns the points where x goes, again and again, from x on.
func (p permutation) cycle(x int) []int {
	cycle := []int{x}
	for y := int(p[x]); y != x; y = int(p[y]) {
		cycle = append(cycle, y)
	}
	return cycle
}

// leasts yields the least point of each cycle of the points 0 to n - 1, in rising order.
func (p permutation) leasts(n int) iter.Seq[int] {
	return func(yield func(int) bool) {
		var seen [api.MaxPoints]bool
		for x := range n {
			if seen[x] {
				continue
			}
			for y := x; !seen[y]; y = int(p[y]) {
				seen[y] = true
			}
			if !yield(x) {
				return
			}
		}
	}
}
