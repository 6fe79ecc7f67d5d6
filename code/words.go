package code

import (
	"slices"

	"dauber/api"
	"dauber/field"
)

// Encode returns the word of the message; ErrShape if that does not have K elements; or ErrArg.
func Encode(c Code, message []int) ([]int, api.Errno) {
	if e := Check(c); e != api.OK {
		return nil, e
	}
	switch {
	case len(message) != c.K:
		return nil, api.ErrShape
	case !areBelow(c.Order, message):
		return nil, api.ErrArg
	}
	f, _ := field.New(c.Order)
	return valuesAt(f, c.Points, message), api.OK
}

// IsWord reports whether w is a word of the code.
func IsWord(c Code, w []int) bool {
	_, e := Message(c, w)
	return e == api.OK
}

// Message returns the message of a word of the code; ErrShape; ErrArg; or ErrFar if w is none.
func Message(c Code, w []int) ([]int, api.Errno) {
	if e := checkWord(c, w); e != api.OK {
		return nil, e
	}
	f, _ := field.New(c.Order)
	p, _ := f.Through(c.Points, w)
	if len(p) > c.K {
		return nil, api.ErrFar
	}
	return padded(p, c.K), api.OK
}

// Within returns the words of the code whose distance from w is at most the radius, ordered as lists; ErrShape; ErrArg; or ErrMany if the code has more than 65536 words.
func Within(c Code, w []int, radius int) ([][]int, api.Errno) {
	if e := checkWord(c, w); e != api.OK {
		return nil, e
	}
	switch {
	case radius < 0:
		return nil, api.ErrArg
	case areMany(c.Order, c.K):
		return nil, api.ErrMany
	}
	var near [][]int
	for word := range linearOf(c).words() {
		if distance(word, w) > radius {
			continue
		}
		near = append(near, slices.Clone(word))
		// Two words of the code differ in more than n - K places, so that there is no other one.
		if radius <= (len(c.Points)-c.K)/2 {
			break
		}
	}
	return near, api.OK
}
