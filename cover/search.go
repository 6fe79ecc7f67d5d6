package cover

import (
	"iter"

	"dauber/api"
)

// search is a problem of which some options are taken. The options that are left have no item of one that is taken; all others are put away, and come back when the search goes back.
type search struct {
	sets    []set          // the items of each option
	columns []list[int]    // of each item, the options left that have it
	left    list[int]      // all options left
	links   [][]*link[int] // of each option, its links in these lists; of an empty one none
	open    set            // the items that no option taken has
	away    []int          // the options put away, the last one last
}

// moment is a state to which the search can go back.
type moment struct {
	open set
	away int
}

func newSearch(p Problem) (*search, api.Errno) {
	sets, e := p.sets()
	if e != api.OK {
		return nil, e
	}
	s := &search{
		sets:    sets,
		columns: make([]list[int], p.Items),
		links:   make([][]*link[int], len(sets)),
		open:    only(p.Items) - 1, // all of 64 items, too: the bit 64 is cut off
	}
	s.left.start()
	for i := range s.columns {
		s.columns[i].start()
	}
	for o, items := range sets {
		if items == 0 {
			continue
		}
		s.links[o] = append(s.links[o], s.left.add(o))
		for i := range items.numbers() {
			s.links[o] = append(s.links[o], s.columns[i].add(o))
		}
	}
	return s, api.OK
}

func (s *search) now() moment {
	return moment{s.open, len(s.away)}
}

// take takes an option: its items are no longer open, and all options that have one of them are put away.
func (s *search) take(o int) {
	s.open &^= s.sets[o]
	for i := range s.sets[o].numbers() {
		for other := range s.columns[i].values() {
			s.putAway(other)
		}
	}
}

func (s *search) putAway(o int) {
	for _, k := range s.links[o] {
		k.remove()
	}
	s.away = append(s.away, o)
}

func (s *search) back(m moment) {
	for n := len(s.away) - 1; n >= m.away; n-- {
		for _, k := range s.links[s.away[n]] {
			k.restore()
		}
	}
	s.away = s.away[:m.away]
	s.open = m.open
}

// narrowest returns the first open item that has the fewest options; there is an open one.
func (s *search) narrowest() int {
	narrowest := -1
	for i := range s.open.numbers() {
		if narrowest < 0 || s.columns[i].length < s.columns[narrowest].length {
			narrowest = i
		}
	}
	return narrowest
}

// choices yields the options of an item, each of which is taken as long as the caller has it.
func (s *search) choices(item int) iter.Seq[int] {
	return func(yield func(int) bool) {
		before := s.now()
		for o := range s.columns[item].values() {
			s.take(o)
			more := yield(o)
			s.back(before)
			if !more {
				return
			}
		}
	}
}

// maxKnown limits how much a search remembers, so that its memory does not grow with its time.
const maxKnown = 1 << 20

// counter counts covers until they are more than most.
type counter struct {
	*search
	most  int
	known map[set]int // how many covers sets of open items have
}

// count returns the number of covers of the open items by the options left, or a number greater than most if there are more.
func (s *search) count(most int) int {
	c := counter{s, most, map[set]int{}}
	return c.covers()
}

// coverable reports whether there is a cover of the open items by the options left.
func (s *search) coverable() bool {
	return s.count(0) > 0
}

func (c *counter) covers() int {
	if c.open == 0 {
		return 1
	}
	item := c.narrowest()
	if c.columns[item].length == 0 {
		return 0 // most searches end here: this need not be remembered
	}
	if n, is := c.known[c.open]; is {
		return n
	}
	n := 0
	for range c.choices(item) {
		n += c.covers()
		if n > c.most {
			return n
		}
	}
	if len(c.known) < maxKnown {
		c.known[c.open] = n
	}
	return n
}
