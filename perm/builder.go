package perm

import "dauber/api"

// builder makes a group of one generator after the other. Each level has strong generators. When nothing is under way it is complete: all that they generate goes through the level and the ones after it.
type builder struct {
	*Group
	strong [api.MaxPoints][]element
}

// element is an element of a group, with the number of the step that makes it.
type element struct {
	permutation
	number int
}

func newBuilder(points int) *builder {
	b := &builder{Group: &Group{points: points}}
	b.note(0, unit)
	for i := range points {
		b.levels = append(b.levels, level{orbit: newOrbit(i)})
	}
	return b
}

// note adds a step and returns its number.
func (b *builder) note(first, second int) int {
	b.steps = append(b.steps, step{first, second})
	return len(b.steps) - 1
}

// generate takes in one more generator.
func (b *builder) generate(p permutation) {
	b.generators = append(b.generators, p)
	if _, is := b.sift(0, p); !is {
		b.extend(0, element{p, b.note(len(b.generators)-1, given)})
	}
}

// generateNew takes in p as one more generator if it is not an element yet.
func (b *builder) generateNew(p permutation) {
	if _, is := b.sift(0, p); !is {
		b.generate(p)
	}
}

// extend takes a strong generator into level i of which it is not an element yet.
func (b *builder) extend(i int, s element) {
	l := &b.levels[i]
	b.strong[i] = append(b.strong[i], s)
	old := len(l.points)
	for k := 0; k < len(l.points); k++ {
		strong := b.strong[i]
		if k < old {
			// This point has met all others before.
			strong = []element{s}
		}
		for _, t := range strong {
			b.meet(i, l.points[k], t)
		}
	}
}

// meet makes the strong generator s of level i bring the point x of its orbit on. Either it comes to a new point, or there are two ways to the same point, and the one followed by the other one backwards belongs into the next level: by Schreier's lemma these ways and back make all that leaves the level's point where it is.
func (b *builder) meet(i, x int, s element) {
	l := &b.levels[i]
	p := l.bringer[x].then(s.permutation)
	y := l.goal(p)
	if !l.has[y] {
		l.reach(p)
		l.numbers[y] = b.note(l.numbers[x], s.number)
		return
	}
	round := l.back(p)
	if _, is := b.sift(i+1, round); !is {
		there, back := b.note(l.numbers[x], s.number), b.note(l.numbers[y], inverted)
		b.extend(i+1, element{round, b.note(there, back)})
	}
}
