package chance

import (
	"slices"
	"strings"

	"dauber/api"
	"dauber/tally"
)

const maxPatterns = 4

// Before returns the chance that a comes before b; ErrArg if m is not from 2 to 90; or ErrPattern if a pattern is not valid, or one occurs within the other one.
func Before(m int, a, b []int) (tally.Rat, api.Errno) {
	if e := checkPatterns(m, a, b); e != api.OK {
		return tally.Rat{}, e
	}
	chances, e := race(m, a, b)
	if e != api.OK {
		return tally.Rat{}, e
	}
	return chances[0], api.OK
}

// Race returns for each pattern the chance that it comes before all others; ErrArg if m is not from 2 to 90; ErrPattern if a pattern is not valid; ErrArg if there are not from 1 to 4; or ErrPattern if one occurs within another one.
func Race(m int, patterns [][]int) ([]tally.Rat, api.Errno) {
	if e := checkPatterns(m, patterns...); e != api.OK {
		return nil, e
	}
	if len(patterns) < 1 || len(patterns) > maxPatterns {
		return nil, api.ErrArg
	}
	return race(m, patterns...)
}

func race(m int, patterns ...[]int) ([]tally.Rat, api.Errno) {
	texts := make([]string, len(patterns))
	for i, pattern := range patterns {
		texts[i] = textOf(pattern)
		for _, text := range texts[:i] {
			if strings.Contains(texts[i], text) || strings.Contains(text, texts[i]) {
				return nil, api.ErrPattern
			}
		}
	}
	// Nothing is drawn yet: the first state after the patterns.
	return raceOf(m, texts).absorb()[len(texts)], api.OK
}

// textOf returns a pattern as a string, which can be the key of a map.
func textOf(pattern []int) string {
	text := make([]byte, len(pattern))
	for i, x := range pattern {
		text[i] = byte(x)
	}
	return string(text)
}

// raceOf returns the chain whose state is the longest beginning of a pattern with which the numbers drawn end. Its first states are the patterns, at which it ends; then comes the beginning without numbers.
func raceOf(m int, patterns []string) chain {
	beginnings := beginningsOf(patterns)
	states := map[string]int{}
	for i, beginning := range beginnings {
		states[beginning] = i
	}
	c := make(chain, len(beginnings))
	for i, beginning := range beginnings {
		counts := make([]int, len(beginnings))
		for x := range m {
			next := i
			if i >= len(patterns) {
				next = longestEnd(states, beginning+textOf([]int{x}))
			}
			counts[next]++
		}
		for _, n := range counts {
			c[i] = append(c[i], ratio(n, m))
		}
	}
	return c
}

// beginningsOf returns the patterns, and then their shorter beginnings, each once.
func beginningsOf(patterns []string) []string {
	list := slices.Clone(patterns)
	for _, pattern := range patterns {
		for length := range len(pattern) {
			if !slices.Contains(list, pattern[:length]) {
				list = append(list, pattern[:length])
			}
		}
	}
	return list
}

// longestEnd returns the state of the longest end of the text that is one; the end without numbers is one.
func longestEnd(states map[string]int, text string) int {
	for from := range len(text) {
		if state, is := states[text[from:]]; is {
			return state
		}
	}
	return states[""]
}
