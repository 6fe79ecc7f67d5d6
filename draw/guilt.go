package draw

import (
	"cmp"
	"slices"

	"dauber/api"
)

// Reasons of guilt.
const (
	Twice  = iota + 1 // two deals that differ
	Bad               // a deal of numbers that are no elements
	Silent            // no answer
	Wrong             // an answer that is not right
	False             // a Reveal or an Open that is not right
)

// noLine is for guilt that is shown by the lack of a line.
const noLine = -1

// Guilt is what a hall did wrong, and the index of the line that shows it in the list of its phase.
type Guilt struct {
	Hall, Why, Line int
}

// before compares by the reasons, the halls, and the lines.
func before(a, b Guilt) int {
	return cmp.Or(cmp.Compare(a.Why, b.Why), cmp.Compare(a.Hall, b.Hall), cmp.Compare(a.Line, b.Line))
}

// Guilty returns all guilt that the board shows; the error of Check; or ErrLong.
func Guilty(c Config, b Board) ([]Guilt, api.Errno) {
	var guilt []Guilt
	_, e := read(c, b, func(hall, why, line int) {
		guilt = append(guilt, Guilt{hall, why, line})
	})
	slices.SortFunc(guilt, before)
	return guilt, e
}
