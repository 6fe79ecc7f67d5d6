package draw

import (
	"slices"

	"dauber/api"
	"dauber/share"
)

// maxPosted is how many lines of a list others than the honest halls can post: with those of 16 honest ones there are at most maxLines.
const maxPosted = 100

// checkPolynomials returns ErrShape if there is not an element for each hall; or ErrArg if one is neither empty nor a polynomial.
func checkPolynomials(c Config, polys [][]int64) api.Errno {
	if len(polys) != c.Halls {
		return api.ErrShape
	}
	for _, poly := range polys {
		if len(poly) != 0 && (len(poly) != c.coefficients() || !c.areNumbers(poly)) {
			return api.ErrArg
		}
	}
	return api.OK
}

// Run returns the board of a draw in which the halls with a polynomial are honest, after what was posted; the error of Check; ErrLong if a list of posted has more than 100 lines, or a line more than 64 numbers; ErrShape if there is not an element of polys for each hall; or ErrArg if one is neither empty nor a polynomial.
func Run(c Config, polys [][]int64, posted Board, lost [][2]int) (Board, api.Errno) {
	if e := checkBoard(c, posted, maxPosted); e != api.OK {
		return Board{}, e
	}
	if e := checkPolynomials(c, polys); e != api.OK {
		return Board{}, e
	}
	halls := honestHalls(c, polys, lost)
	board := copied(posted)
	for phase, list := range lists(&board) {
		j := judged(c, board, blameless)
		for _, h := range halls {
			*list = append(*list, h.posts(j, phase)...)
		}
	}
	return board, api.OK
}

// copied returns a board with the same lines in memory of its own.
func copied(b Board) Board {
	for _, list := range lists(&b) {
		*list = slices.Clone(*list)
		for i, l := range *list {
			(*list)[i].Numbers = slices.Clone(l.Numbers)
		}
	}
	return b
}

// honestHalls returns the halls that have a polynomial, with the shares that they get of the others.
func honestHalls(c Config, polys [][]int64, lost [][2]int) []honest {
	got := delivered(c, polys, lost)
	var halls []honest
	for i, poly := range polys {
		if len(poly) > 0 {
			halls = append(halls, honest{i + 1, poly, got[i]})
		}
	}
	return halls
}

// delivered returns for each hall what it gets from each.
func delivered(c Config, polys [][]int64, lost [][2]int) [][]int64 {
	got := make([][]int64, c.Halls)
	for i := range got {
		got[i] = slices.Repeat([]int64{none}, c.Halls)
	}
	for sender, poly := range polys {
		if len(poly) == 0 {
			continue
		}
		shares, _ := share.Shares(c.Group, poly, c.Halls)
		for other := range c.others(sender + 1) {
			got[other-1][sender] = shares[other-1]
		}
	}
	for _, pair := range lost {
		if sender, other := pair[0], pair[1]; c.isHall(sender) && c.isHall(other) {
			got[other-1][sender-1] = none
		}
	}
	return got
}
