package perm

import (
	"slices"

	"dauber/api"
)

// step makes the product of the permutations with its two numbers, or, by one of the constants as its second number, something else.
type step = [2]int

const (
	inverted = -1 // the inverse of the permutation with the first number
	given    = -2 // the generator with the first number
	unit     = -3 // the identity
)

// Word returns a word for p; ErrPerm; ErrShape; or ErrNone if p is not an element. It has the steps that make the bringers of p's goals, and those that make p of these. They are fewer than 4000: each strong generator, of three steps, at least doubled what its level's generate, at most 20! elements, and each bringer has one step.
func (g *Group) Word(p []int) ([][2]int, api.Errno) {
	goals, e := g.goals(p)
	if e != api.OK || len(g.generators) == 0 {
		return nil, e
	}
	var word [][2]int
	add := func(first, second int) int {
		word = append(word, [2]int{first, second})
		return len(g.generators) + len(word) - 1
	}
	numbers := make(map[int]int) // where the word has what a step of the group makes
	var spell func(at int) int
	spell = func(at int) int {
		if number, is := numbers[at]; is {
			return number
		}
		var number int
		switch first, second := g.steps[at][0], g.steps[at][1]; second {
		case unit:
			number = add(0, add(0, inverted))
		case given:
			number = first
		case inverted:
			number = add(spell(first), inverted)
		default:
			a, b := spell(first), spell(second)
			number = add(a, b)
		}
		numbers[at] = number
		return number
	}
	last := spell(0)
	for i := g.points - 1; i >= 0; i-- {
		if goals[i] != i {
			bringer := spell(g.levels[i].numbers[goals[i]])
			last = add(last, bringer)
		}
	}
	return word, api.OK
}

// Spells reports whether the word is one for p with the generators that New was given.
func (g *Group) Spells(word [][2]int, p []int) bool {
	one, e := g.read(p)
	if e != api.OK {
		return false
	}
	made := slices.Clone(g.generators)
	for _, step := range word {
		a, b := step[0], step[1]
		switch {
		case a < 0 || a >= len(made) || b < inverted || b >= len(made):
			return false
		case b == inverted:
			made = append(made, made[a].inverse())
		default:
			made = append(made, made[a].then(made[b]))
		}
	}
	if len(made) == 0 {
		return one[0] == identity()
	}
	return made[len(made)-1] == one[0]
}
