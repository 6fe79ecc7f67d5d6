package draw

import "dauber/api"

const (
	maxLines   = 400 // of a list
	maxNumbers = 64  // of a line
)

// Kinds of lines.
const (
	Deal     = iota + 1 // a hall's commitments
	Complain            // that it got no share that fits
	Answer              // the share of a hall that complained
	Reveal              // its polynomial
	Open                // the share that it got
	kinds
)

// Phases are numbered as the lists of a board are.
const (
	dealing = iota
	complaining
	answering
	revealing
	phases
)

// Line is a line on a board: which hall posts it, its kind, and of which hall it is.
type Line struct {
	Hall, Kind, Of int
	Numbers        []int64
}

// Board is what was posted in the four phases.
type Board struct {
	Deals, Complaints, Answers, Reveals []Line
}

// lists returns the lists of a board, by their phases.
func lists(b *Board) [phases]*[]Line {
	return [phases]*[]Line{
		dealing:     &b.Deals,
		complaining: &b.Complaints,
		answering:   &b.Answers,
		revealing:   &b.Reveals,
	}
}

// checkBoard returns the error of Check; or ErrLong if a list has more than so many lines, or a line more than 64 numbers.
func checkBoard(c Config, b Board, most int) api.Errno {
	if e := Check(c); e != api.OK {
		return e
	}
	for _, list := range lists(&b) {
		if len(*list) > most {
			return api.ErrLong
		}
		for _, l := range *list {
			if len(l.Numbers) > maxNumbers {
				return api.ErrLong
			}
		}
	}
	return api.OK
}
