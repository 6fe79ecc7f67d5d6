package draw_test

import (
	"fmt"
	"math"
	"slices"
	"testing"

	"dauber/api"
	"dauber/draw"
)

func expectRun(t *testing.T, what string, c draw.Config, polys [][]int64, posted draw.Board, lost [][2]int, want draw.Board) {
	t.Helper()
	b, e := draw.Run(c, polys, posted, lost)
	expectError(t, what, e, api.OK)
	expectSame(t, what, b, want)
	expectSame(t, what+", by the oracle", run(c, polys, posted, lost), want)
}

// honest are the polynomials of three halls with Bound 1.
func honest() [][]int64 {
	return [][]int64{{7, 3}, {1, 1}, {2, 5}}
}

// honestBoard is what they post if nothing is lost.
func honestBoard() draw.Board {
	return draw.Board{Deals: allDeals()[:3], Reveals: lines(
		reveal(1, 7, 3), opens(1, 2, 2), opens(1, 3, 7),
		reveal(2, 1, 1), opens(2, 1, 2), opens(2, 3, 1),
		reveal(3, 2, 5), opens(3, 1, 5), opens(3, 2, 4),
	)}
}

// P9.4: what is lost is complained of, and answered; pairs of halls that there are not, of a hall with itself, and the same ones twice change nothing.
func TestLost(t *testing.T) {
	c := config(3, 1)
	expectRun(t, "nothing lost", c, honest(), draw.Board{}, nil, honestBoard())
	one := honestBoard()
	one.Complaints, one.Answers = lines(complain(2, 3)), lines(answers(3, 2, 1))
	expectRun(t, "one lost", c, honest(), draw.Board{}, [][2]int{{3, 2}}, one)
	expectRun(t, "the same one lost twice", c, honest(), draw.Board{}, [][2]int{{3, 2}, {3, 2}}, one)
	several := honestBoard()
	several.Complaints = lines(complain(1, 3), complain(2, 1), complain(2, 3))
	several.Answers = lines(answers(1, 2, 2), answers(3, 1, 7), answers(3, 2, 1))
	expectRun(t, "several lost", c, honest(), draw.Board{}, [][2]int{{3, 2}, {1, 2}, {3, 1}}, several)
	all := honestBoard()
	all.Complaints = lines(complain(1, 2), complain(1, 3), complain(2, 1), complain(2, 3), complain(3, 1), complain(3, 2))
	all.Answers = lines(answers(1, 2, 2), answers(1, 3, 5), answers(2, 1, 2), answers(2, 3, 4), answers(3, 1, 7), answers(3, 2, 1))
	expectRun(t, "all lost", c, honest(), draw.Board{}, [][2]int{{1, 2}, {1, 3}, {2, 1}, {2, 3}, {3, 1}, {3, 2}}, all)
	var none [][2]int
	for _, n := range wildInts(3) {
		if n != 1 && n != 3 {
			none = append(none, [2]int{n, 2}, [2]int{2, n}, [2]int{n, n})
		}
	}
	none = append(none, [2]int{1, 1}, [2]int{2, 2}, [2]int{3, 3})
	expectRun(t, "no halls", c, honest(), draw.Board{}, none, honestBoard())
	expectRun(t, "no halls, and one", c, honest(), draw.Board{}, append(none, [2]int{3, 2}), one)
	expectRun(t, "the same pair very often", c, honest(), draw.Board{}, slices.Repeat([][2]int{{3, 2}}, 100000), one)
}

// P9.4: the halls that are not honest get no shares, send none and post nothing but what was posted.
func TestNotHonest(t *testing.T) {
	c := config(3, 1)
	expectRun(t, "none honest", c, [][]int64{nil, {}, nil}, draw.Board{}, [][2]int{{1, 2}}, draw.Board{})
	posted := draw.Board{Deals: lines(deal(3, 16, 12)), Complaints: lines(complain(3, 1)), Answers: lines(answers(3, 1, 8), answers(3, 2, 1)), Reveals: lines(reveal(3, 2, 5), opens(3, 3, 3))}
	expectRun(t, "none honest, with lines", c, [][]int64{nil, {}, nil}, posted, nil, posted)
	want := draw.Board{
		Deals:      lines(deal(3, 16, 12), deal(1, 8, 18), deal(2, 4, 4)),
		Complaints: lines(complain(3, 1), complain(1, 3), complain(2, 3)),
		Answers:    lines(answers(3, 1, 8), answers(3, 2, 1), answers(1, 3, 5)),
		Reveals:    lines(reveal(3, 2, 5), opens(3, 3, 3), reveal(1, 7, 3), opens(1, 2, 2), reveal(2, 1, 1), opens(2, 1, 2)),
	}
	expectRun(t, "one not honest", c, [][]int64{{7, 3}, {1, 1}, nil}, posted, nil, want)
	posted.Answers[0] = answers(3, 1, 7)
	want.Answers[0] = answers(3, 1, 7)
	want.Reveals = lines(reveal(3, 2, 5), opens(3, 3, 3), reveal(1, 7, 3), opens(1, 2, 2), opens(1, 3, 7), reveal(2, 1, 1), opens(2, 1, 2), opens(2, 3, 1))
	expectRun(t, "one not honest, with right answers", c, [][]int64{{7, 3}, {1, 1}, {}}, posted, nil, want)
}

// P9.4: lines in the name of an honest hall come before its own.
func TestForged(t *testing.T) {
	c := config(2, 1)
	posted := draw.Board{Deals: lines(deal(1, 4, 4)), Reveals: lines(reveal(1, 1, 1))}
	want := draw.Board{
		Deals:      lines(deal(1, 4, 4), deal(1, 8, 18), deal(2, 4, 4)),
		Complaints: lines(complain(2, 1)),
		Answers:    lines(answers(1, 2, 2)),
		Reveals:    lines(reveal(1, 1, 1), opens(1, 2, 2), reveal(2, 1, 1)),
	}
	expectRun(t, "a forged deal", c, honest()[:2], posted, nil, want)
	expectVerdict(t, "a forged deal", c, want, verdict{[]int{1, 2}, []int{2}, []int64{-1, 1}, 1, 2, []draw.Guilt{{Hall: 1, Why: draw.Twice, Line: 1}, {Hall: 1, Why: draw.Wrong, Line: 0}}})
}

// P9.4: too many posted lines come first, then the number of polynomials, then the polynomials.
func TestRunBadArguments(t *testing.T) {
	c := config(3, 1)
	refused := func(what string, polys [][]int64, posted draw.Board, want api.Errno) {
		t.Helper()
		b, e := draw.Run(c, polys, posted, [][2]int{{1, 2}})
		expectError(t, "Run: "+what, e, want, b)
	}
	for phase := range 4 {
		for _, list := range [][]draw.Line{make([]draw.Line, 101), make([]draw.Line, 401), lines(deal(1, make([]int64, 65)...)), append(make([]draw.Line, 99), complain(1, 2), opens(2, 1, 1))} {
			long := with(draw.Board{}, phase, list...)
			refused("a long board", honest(), long, api.ErrLong)
			refused("a long board, and too few polynomials", honest()[:2], long, api.ErrLong)
			refused("a long board, and bad polynomials", [][]int64{{-1}, {1, 2, 3}, {11, 0}}, long, api.ErrLong)
		}
	}
	for _, n := range []int{0, 1, 2, 4, 5, 17, 1000} {
		refused(fmt.Sprint(n, " polynomials"), slices.Repeat([][]int64{{7, 3}}, n), draw.Board{}, api.ErrShape)
		refused(fmt.Sprint(n, " empty ones"), make([][]int64, n), draw.Board{}, api.ErrShape)
		refused(fmt.Sprint(n, " bad ones"), slices.Repeat([][]int64{{-1}}, n), draw.Board{}, api.ErrShape)
	}
	bad := [][]int64{{7}, {7, 3, 0}, make([]int64, 16), make([]int64, 17), make([]int64, 5000)}
	for _, n := range []int64{math.MinInt64, -11, -1, 11, 12, 1 << 32, math.MaxInt64} {
		bad = append(bad, []int64{n, 3}, []int64{7, n}, []int64{n}, []int64{7, 3, n})
	}
	for _, poly := range bad {
		for at := range 3 {
			polys := honest()
			polys[at] = poly
			refused(fmt.Sprint("polynomials ", polys), polys, draw.Board{}, api.ErrArg)
			polys = make([][]int64, 3)
			polys[at] = poly
			refused(fmt.Sprint("polynomials ", polys), polys, draw.Board{}, api.ErrArg)
		}
	}
}

// P9.4: polynomials of the least and the greatest numbers.
func TestRunPolynomials(t *testing.T) {
	for _, p := range []int64{3, 5, 11, 17, 101} {
		halls := int(min(5, p-1))
		for bound := range halls {
			c := draw.Config{Group: found(p), Halls: halls, Bound: bound, Balls: 90}
			for _, n := range []int64{0, p - 1} {
				polys := slices.Repeat([][]int64{slices.Repeat([]int64{n}, bound+1)}, halls)
				b, e := draw.Run(c, polys, draw.Board{}, nil)
				expectError(t, "Run", e, api.OK)
				expectSame(t, fmt.Sprint(c, polys), b, run(c, polys, draw.Board{}, nil))
				sum, e := draw.Sum(c, b)
				expectSame(t, fmt.Sprint(c, polys), []any{sum, e}, []any{n * int64(halls) % p, api.OK})
			}
		}
	}
}

// P9.4: draws of all kinds, compared with the oracle.
func TestRuns(t *testing.T) {
	r := newRandom()
	for range 1000 {
		c := someConfig(r, 6)
		polys := somePolys(r, c)
		posted := someBoard(r, c, polys, oneOf(r, 3, 10, 1000))
		honestHalls := oneOf(r, 2, 3, 10)
		for i := range polys {
			if !chance(r, honestHalls) {
				posted = withoutHall(posted, i+1)
			} else {
				polys[i] = nil
			}
		}
		if chance(r, 4) {
			posted = someBoard(r, c, somePolys(r, c), 10)
		}
		lost := someLost(r, c, oneOf(r, 1, 5, 1000))
		want := run(c, polys, posted, lost)
		b, e := draw.Run(c, polys, posted, lost)
		expectError(t, "Run", e, api.OK)
		expectSame(t, fmt.Sprint(c, polys, posted, lost), b, want)
		expectSame(t, fmt.Sprint(c, polys, posted, lost), verdictOf(t, c, b), newOracle(c, want).verdict())
	}
}

// withoutHall returns a board without the lines of a hall.
func withoutHall(b draw.Board, hall int) draw.Board {
	b = cloned(b)
	for phase := range 4 {
		list := listOf(&b, phase)
		*list = slices.DeleteFunc(*list, func(l draw.Line) bool { return l.Hall == hall })
	}
	return b
}

// P9.4: the largest draw, with all posted lines that there may be: the board that it makes is not too long.
func TestLargestDraw(t *testing.T) {
	r := newRandom()
	for _, bound := range []int{0, 7, 14, 15} {
		c := draw.Config{Group: found(65521), Halls: 16, Bound: bound, Balls: 90}
		polys := somePolys(r, c)
		var all [][2]int
		total := int64(0)
		for i, poly := range polys {
			total += poly[0]
			for other := 1; other <= 16; other++ {
				all = append(all, [2]int{i + 1, other})
			}
		}
		none := slices.Repeat(lines(draw.Line{Hall: 17, Kind: draw.Deal, Numbers: make([]int64, 64)}), 100)
		posted := draw.Board{Deals: none, Complaints: none, Answers: none, Reveals: none}
		for i, lost := range [][][2]int{nil, all} {
			b, e := draw.Run(c, polys, posted, lost)
			expectError(t, "Run", e, api.OK)
			expectSame(t, "lines", []int{len(b.Deals), len(b.Complaints), len(b.Answers), len(b.Reveals)}, []int{116, 100 + 240*i, 100 + 240*i, 356})
			expectSame(t, "the board", b, run(c, polys, posted, lost))
			sum, e := draw.Sum(c, b)
			expectSame(t, "Sum", []any{sum, e}, []any{total % 65521, api.OK})
			guilt, e := draw.Guilty(c, b)
			expectSame(t, "Guilty", []any{guilt, e}, []any{[]draw.Guilt{}, api.OK})
		}
	}
}

// The examples of the chapter.
func TestExamples(t *testing.T) {
	c := config(3, 1)
	b, e := draw.Run(c, honest(), draw.Board{}, nil)
	expectError(t, "Run", e, api.OK)
	expectSame(t, "example 1", b, honestBoard())
	expectVerdict(t, "example 1", c, b, verdict{[]int{1, 2, 3}, []int{1, 2, 3}, []int64{7, 1, 2}, 10, 11, nil})
	posted := draw.Board{Deals: lines(deal(3, commitments(c.Group, 2, 5)...))}
	b, e = draw.Run(c, [][]int64{{7, 3}, {1, 1}, nil}, posted, nil)
	expectError(t, "Run", e, api.OK)
	expectSame(t, "complaints", b.Complaints, lines(complain(1, 3), complain(2, 3)))
	silent := draw.Guilt{Hall: 3, Why: draw.Silent, Line: -1}
	expectVerdict(t, "example 2", c, b, verdict{[]int{1, 2, 3}, []int{1, 2}, []int64{7, 1, -1}, 8, 9, []draw.Guilt{silent, silent}})
	c = config(4, 1)
	posted = draw.Board{Deals: lines(deal(4, commitments(c.Group, 2, 5)...)), Answers: lines(answers(4, 1, 7), answers(4, 2, 1), answers(4, 3, 6))}
	b, e = draw.Run(c, [][]int64{{7, 3}, {1, 1}, {0, 0}, nil}, posted, nil)
	expectError(t, "Run", e, api.OK)
	b.Reveals = b.Reveals[:3]
	secret, e := draw.Secret(c, b, 4)
	expectSame(t, "example 3", []any{secret, e}, []any{2, api.OK})
	in, e := draw.In(c, b)
	expectSame(t, "example 3", []any{in, e}, []any{[]int{1, 2, 3, 4}, api.OK})
}
