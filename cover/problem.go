package cover

import (
	"iter"

	"dauber/api"
)

// Problem is a number of items, and options: lists of items.
type Problem struct {
	Items   int
	Options [][]int
}

const (
	maxItems   = 64
	maxOptions = 500
	maxListed  = 1000
	maxCounted = 1000000
)

// Check returns ErrArg if Items is not from 0 to 64; ErrLong if there are more than 500 options; or ErrArg if an option has a number that is no item, or one twice.
func Check(p Problem) api.Errno {
	_, e := p.sets()
	return e
}

// sets returns the items of each option, or the error of Check.
func (p Problem) sets() ([]set, api.Errno) {
	switch {
	case p.Items < 0 || p.Items > maxItems:
		return nil, api.ErrArg
	case len(p.Options) > maxOptions:
		return nil, api.ErrLong
	}
	sets := make([]set, len(p.Options))
	for o, list := range p.Options {
		items, is := readSet(list, p.Items)
		if !is {
			return nil, api.ErrArg
		}
		sets[o] = items
	}
	return sets, api.OK
}

// First returns the first cover, the error of Check, or ErrNone.
func First(p Problem) ([]int, api.Errno) {
	s, e := newSearch(p)
	if e != api.OK {
		return nil, e
	}
	for cover := range s.covers() {
		return cover, api.OK
	}
	return nil, api.ErrNone
}

// All returns the first covers, at most so many; the error of Check; or ErrArg if most is not from 1 to 1000.
func All(p Problem, most int) ([][]int, api.Errno) {
	s, e := newSearch(p)
	switch {
	case e != api.OK:
		return nil, e
	case most < 1 || most > maxListed:
		return nil, api.ErrArg
	}
	var all [][]int
	for cover := range s.covers() {
		all = append(all, cover)
		if len(all) == most {
			break
		}
	}
	return all, api.OK
}

// Count returns the number of covers; the error of Check; ErrArg if most is not from 1 to 1000000; or ErrMore if there are more than most covers.
func Count(p Problem, most int) (int, api.Errno) {
	s, e := newSearch(p)
	switch {
	case e != api.OK:
		return 0, e
	case most < 1 || most > maxCounted:
		return 0, api.ErrArg
	}
	n := s.count(most)
	if n > most {
		return 0, api.ErrMore
	}
	return n, api.OK
}

// step is an option that was taken, and the moment before that.
type step struct {
	option int
	before moment
}

// covers yields the covers in their order.
func (s *search) covers() iter.Seq[[]int] {
	return func(yield func([]int) bool) {
		var path []step
	search:
		for found := s.coverable(); found; {
			path = s.goDown(path)
			if !yield(options(path)) {
				break search
			}
			// The next cover has the same options up to one of them, and after these only later ones than that.
			for found = false; !found; found = s.coverable() {
				if len(path) == 0 {
					break search
				}
				last := len(path) - 1
				s.refuse(path[last])
				path = path[:last]
			}
		}
	}
}

// goDown takes the options of the first cover of what is open; there is one.
func (s *search) goDown(path []step) []step {
	for s.open != 0 {
		k := step{s.left.first(), s.now()}
		s.take(k.option)
		if s.coverable() {
			path = append(path, k)
		} else {
			s.refuse(k)
		}
	}
	return path
}

// refuse goes back to before an option, and puts it away instead.
func (s *search) refuse(k step) {
	s.back(k.before)
	s.putAway(k.option)
}

func options(path []step) []int {
	list := make([]int, len(path))
	for i, k := range path {
		list[i] = k.option
	}
	return list
}
