package hall

import (
	"slices"

	"dauber/api"
	"dauber/draw"
	"dauber/share"
)

const (
	maxLines   = 100 // of a list
	maxNumbers = 64  // of a line
)

// openDraw is a draw that is not ended, and what was posted for it.
type openDraw struct {
	config draw.Config
	board  draw.Board
}

// copied returns a draw with lists of its own; nil of nil. The numbers of lines never change: both draws can have them.
func (d *openDraw) copied() *openDraw {
	if d == nil {
		return nil
	}
	return &openDraw{d.config, draw.Board{
		Deals:      slices.Clone(d.board.Deals),
		Complaints: slices.Clone(d.board.Complaints),
		Answers:    slices.Clone(d.board.Answers),
		Reveals:    slices.Clone(d.board.Reveals),
	}}
}

// listFor returns the list to which lines of a kind belong.
func (d *openDraw) listFor(kind int) *[]draw.Line {
	switch kind {
	case draw.Deal:
		return &d.board.Deals
	case draw.Complain:
		return &d.board.Complaints
	case draw.Answer:
		return &d.board.Answers
	}
	return &d.board.Reveals
}

// open opens a draw in the group of P elements.
func (n *Night) open(p int64, halls, bound int) (string, error) {
	balls := len(n.uncalled())
	if n.closed || n.draw != nil || balls == 0 {
		return refuse(api.ErrState)
	}
	g, e := share.Find(p)
	if e != api.OK {
		return refuse(e)
	}
	c := draw.Config{Group: g, Halls: halls, Bound: bound, Balls: balls}
	if e := draw.Check(c); e != api.OK {
		return refuse(e)
	}
	n.draw = &openDraw{config: c}
	return ok, nil
}

// posting returns the deed that puts a line at the end of the list for its kind.
func (n *Night) posting(l draw.Line) deed {
	return func() (string, error) {
		if n.draw == nil {
			return refuse(api.ErrState)
		}
		if len(l.Numbers) > maxNumbers {
			return refuse(api.ErrLong)
		}
		list := n.draw.listFor(l.Kind)
		if len(*list) == maxLines {
			return refuse(api.ErrFull)
		}
		*list = append(*list, l)
		return ok, nil
	}
}

// ball ends the draw, and calls the number that was drawn.
func (n *Night) ball() (string, error) {
	if n.draw == nil {
		return refuse(api.ErrState)
	}
	ball, e := draw.Ball(n.draw.config, n.draw.board)
	if e != api.OK {
		return refuse(e)
	}
	number := n.uncalled()[ball-1]
	n.draw = nil
	n.come(number)
	return joined(ok, number), nil
}

// guilty names the halls with guilt.
func (n *Night) guilty() (string, error) {
	if n.draw == nil {
		return refuse(api.ErrState)
	}
	guilt, e := draw.Guilty(n.draw.config, n.draw.board)
	if e != api.OK {
		return refuse(e)
	}
	var halls []int
	for _, g := range guilt {
		halls = append(halls, g.Hall)
	}
	slices.Sort(halls)
	return joined("guilty", slices.Compact(halls)...), nil
}
