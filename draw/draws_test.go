package draw_test

import (
	"fmt"
	"math"
	"slices"
	"testing"

	"dauber/api"
	"dauber/draw"
	"dauber/share"
)

// badArguments are wrong in all that comes after the draw and the board.
func badArguments(c draw.Config, b draw.Board) arguments {
	return arguments{c: c, b: b, hall: 0, poly: []int64{-1}, got: nil, phase: 4, polys: [][]int64{{-1}}, lost: nil}
}

// expectRefused checks that all calls that take a draw return the same error, whatever else is wrong.
func expectRefused(t *testing.T, what string, c draw.Config, want api.Errno) {
	t.Helper()
	expectError(t, what+": Check", draw.Check(c), want)
	long := draw.Board{Deals: make([]draw.Line, 401), Reveals: lines(reveal(1, make([]int64, 65)...))}
	for _, a := range []arguments{badArguments(c, long), badArguments(c, draw.Board{}), ordinary(c)} {
		for _, call := range everyCall(a) {
			expectError(t, what+": "+call.name, call.e, want, call.results...)
		}
	}
}

// P9.1: all numbers of halls, bounds and numbers of balls, in groups of all sizes.
func TestConfigs(t *testing.T) {
	for _, p := range []int64{3, 5, 7, 11, 13, 17, 19, 101, 65521} {
		g := found(p)
		for _, halls := range []int{math.MinInt, -1 << 32, -2, -1, 0, 1, 2, 3, 4, 5, 7, 10, 11, 12, 15, 16, 17, 18, int(p) - 1, int(p), int(p) + 1, 1<<32 + 2, math.MaxInt} {
			for _, bound := range []int{math.MinInt, -1, 0, 1, halls / 2, halls - 2, halls - 1, halls, halls + 1, math.MaxInt} {
				for _, balls := range []int{math.MinInt, -90, -1, 0, 1, 2, 75, 89, 90, 91, 1<<32 + 1, math.MaxInt} {
					want := api.ErrArg
					if halls >= 2 && halls <= 16 && halls <= int(p)-1 && 0 <= bound && bound <= halls-1 && 1 <= balls && balls <= 90 {
						want = api.OK
					}
					c := draw.Config{Group: g, Halls: halls, Bound: bound, Balls: balls}
					expectError(t, fmt.Sprint("Check of ", c), draw.Check(c), want)
				}
			}
		}
	}
}

// P9.1: what is out of its range is refused by all calls.
func TestBadConfigs(t *testing.T) {
	for _, p := range []int64{3, 5, 11, 17, 19, 65521} {
		halls := int(min(16, p-1))
		good := draw.Config{Group: found(p), Halls: halls, Bound: 1, Balls: 90}
		for _, n := range []int{math.MinInt, -1, 0, 1, halls + 1, 17, int(p), math.MaxInt} {
			bad := good
			bad.Halls = n
			bad.Bound = 0
			expectRefused(t, fmt.Sprint(bad), bad, api.ErrArg)
		}
		for _, n := range []int{math.MinInt, -1, halls, halls + 1, math.MaxInt} {
			bad := good
			bad.Bound = n
			expectRefused(t, fmt.Sprint(bad), bad, api.ErrArg)
		}
		for _, n := range []int{math.MinInt, -1, 0, 91, math.MaxInt} {
			bad := good
			bad.Balls = n
			expectRefused(t, fmt.Sprint(bad), bad, api.ErrArg)
		}
	}
}

// P9.1: a group that is none comes before all else.
func TestBadGroups(t *testing.T) {
	groups := []share.Group{
		{}, {R: 23, P: 11, G: 1}, {R: 23, P: 11, G: 5}, {R: 23, P: 11, G: 23}, {R: 22, P: 11, G: 4}, {R: 23, P: 7, G: 4}, {R: 23, P: 22, G: 5}, {R: 3, P: 2, G: 2},
		{R: -23, P: -11, G: -4}, {R: math.MaxInt64, P: math.MaxInt64, G: math.MaxInt64}, {R: math.MinInt64, P: math.MinInt64, G: math.MinInt64},
	}
	for _, g := range groups {
		for _, c := range []draw.Config{{Halls: 3, Bound: 1, Balls: 90}, {}, {Halls: 2, Bound: 2, Balls: 1}, {Halls: -1, Bound: -1, Balls: 91}} {
			c.Group = g
			expectRefused(t, fmt.Sprint(c), c, api.ErrGroup)
		}
	}
}

// expectLong checks that all calls take a board, or refuse it, whatever else is wrong.
func expectLong(t *testing.T, what string, c draw.Config, b draw.Board, most int, want api.Errno) {
	t.Helper()
	for _, call := range everyCall(badArguments(c, b)) {
		if call.most == most && want == api.ErrLong {
			expectError(t, what+": "+call.name, call.e, api.ErrLong, call.results...)
		} else if call.most == most && call.e == api.ErrLong {
			t.Errorf("%s: %s: error %d", what, call.name, call.e)
		}
	}
}

// P9.1, P9.4: lists of lines, of all kinds, that are as long as they may be, and one longer.
func TestLongLists(t *testing.T) {
	c := config(3, 1)
	for phase := range 4 {
		for _, l := range lines(draw.Line{}, deal(1, 1, 1), complain(1, 2), answers(1, 2, 3), reveal(1, 1, 1), opens(2, 1, 1), draw.Line{Hall: -1, Kind: 9, Of: 99}) {
			for _, most := range []int{100, 400} {
				for n, want := range map[int]api.Errno{0: api.OK, 1: api.OK, most - 1: api.OK, most: api.OK, most + 1: api.ErrLong, 5000: api.ErrLong} {
					b := with(draw.Board{}, phase, slices.Repeat(lines(l), n)...)
					expectLong(t, fmt.Sprint(n, " lines ", l, " in phase ", phase), c, b, most, want)
				}
			}
		}
	}
	full := slices.Repeat(lines(deal(1, 8, 18)), 400)
	b := draw.Board{Deals: full, Complaints: full, Answers: full, Reveals: full}
	expectLong(t, "400 lines everywhere", c, b, 400, api.OK)
	expectLong(t, "400 lines everywhere", c, b, 100, api.ErrLong)
	b = draw.Board{Deals: full[:100], Complaints: full[:100], Answers: full[:100], Reveals: full[:100]}
	expectLong(t, "100 lines everywhere", c, b, 100, api.OK)
}

// P9.1, P9.4: lines, of all kinds and of no halls, with as many numbers as there may be, and one more, wherever they are.
func TestLongLines(t *testing.T) {
	c := config(3, 1)
	for phase := range 4 {
		for kind := -1; kind <= 6; kind++ {
			for n, want := range map[int]api.Errno{0: api.OK, 1: api.OK, 63: api.OK, 64: api.OK, 65: api.ErrLong, 5000: api.ErrLong} {
				long := draw.Line{Hall: kind, Kind: kind, Of: 1, Numbers: make([]int64, n)}
				for _, at := range []int{0, 30, 99} {
					list := make([]draw.Line, 100)
					list[at] = long
					for _, most := range []int{100, 400} {
						expectLong(t, fmt.Sprint(n, " numbers of kind ", kind, " in phase ", phase), c, with(draw.Board{}, phase, list...), most, want)
					}
				}
			}
		}
	}
}
