package draw

import (
	"slices"

	"dauber/api"
	"dauber/share"
)

// none is what a hall has instead of a share that it did not get.
const none = -1

// honest is a hall that keeps to the rules, with its polynomial, and the shares that it got from the halls 1, 2, ..
type honest struct {
	hall      int
	poly, got []int64
}

// posts returns the lines of a phase, after what the judge has read.
func (h honest) posts(j *judge, phase int) []Line {
	ways := [phases]func(honest, *judge) []Line{
		dealing:     honest.deal,
		complaining: honest.complain,
		answering:   honest.answer,
		revealing:   honest.reveal,
	}
	return ways[phase](h, j)
}

func (h honest) deal(j *judge) []Line {
	commitments, _ := share.Commit(j.Group, h.poly)
	return []Line{{Hall: h.hall, Kind: Deal, Numbers: commitments}}
}

func (h honest) complain(j *judge) []Line {
	var lines []Line
	for other := range j.others(h.hall) {
		if j.hasDeal(other) && !j.fits(other, h.hall, h.got[other-1]) {
			lines = append(lines, Line{Hall: h.hall, Kind: Complain, Of: other})
		}
	}
	return lines
}

func (h honest) answer(j *judge) []Line {
	shares, _ := share.Shares(j.Group, h.poly, j.Halls)
	var lines []Line
	for other := range j.others(h.hall) {
		if j.records[h.hall].complained[other] {
			lines = append(lines, Line{h.hall, Answer, other, []int64{shares[other-1]}})
		}
	}
	return lines
}

func (h honest) reveal(j *judge) []Line {
	var lines []Line
	if j.isIn(h.hall) {
		lines = append(lines, Line{Hall: h.hall, Kind: Reveal, Numbers: slices.Clone(h.poly)})
	}
	for other := range j.others(h.hall) {
		if s := h.shareOf(j, other); s.right && j.isIn(other) {
			lines = append(lines, Line{h.hall, Open, other, []int64{s.number}})
		}
	}
	return lines
}

// shareOf returns the share that the hall got from another one, if it fits, otherwise what that one answered.
func (h honest) shareOf(j *judge, other int) claim {
	if got := h.got[other-1]; j.fits(other, h.hall, got) {
		return rightClaim(got)
	}
	return j.records[other].answers[h.hall]
}

// Post returns the lines that an honest hall posts in a phase; the error of Check; ErrLong; ErrArg if there is no such hall or phase, or a number of poly is not from 0 to P - 1; or ErrShape if poly does not have Bound + 1 numbers, or got not one for each hall.
func Post(c Config, hall int, poly, got []int64, b Board, phase int) ([]Line, api.Errno) {
	if e := checkBoard(c, b, maxLines); e != api.OK {
		return nil, e
	}
	switch {
	case !c.isHall(hall) || phase < dealing || phase >= phases || !c.areNumbers(poly):
		return nil, api.ErrArg
	case len(poly) != c.coefficients() || len(got) != c.Halls:
		return nil, api.ErrShape
	}
	return honest{hall, poly, got}.posts(judged(c, b, blameless), phase), api.OK
}
