package draw_test

import (
	"fmt"
	"math"
	"slices"
	"testing"

	"dauber/api"
	"dauber/draw"
)

// posting is what hall 1 of four halls with Bound 1, with the polynomial (7, 3), posts after a board.
type posting struct {
	name string
	b    draw.Board
	got  []int64
	want []draw.Line
}

func expectPostings(t *testing.T, phase int, list []posting) {
	t.Helper()
	c := config(4, 1)
	for _, x := range list {
		posts, e := draw.Post(c, 1, []int64{7, 3}, x.got, x.b, phase)
		expectLines(t, x.name, posts, e, x.want)
		expectSame(t, x.name+", by the oracle", newOracle(c, x.b).posts(1, []int64{7, 3}, x.got, phase), x.want)
	}
}

// noShares are what a hall has that got none; allShares what hall 1 gets of the polynomials (1, 1), (2, 5) and (4, 0).
func noShares() []int64  { return []int64{-1, -1, -1, -1} }
func allShares() []int64 { return []int64{-1, 2, 7, 4} }

// P9.3: the line Deal, whatever the board has.
func TestPostDeal(t *testing.T) {
	mine := lines(deal(1, 8, 18))
	full := draw.Board{Deals: allDeals(), Complaints: lines(complain(2, 1), complain(1, 2)), Answers: lines(answers(1, 2, 3)), Reveals: allReveals()}
	expectPostings(t, 0, []posting{
		{"an empty board", draw.Board{}, noShares(), mine},
		{"all shares", draw.Board{}, allShares(), mine},
		{"a full board", full, noShares(), mine},
		{"a deal that is another one's", draw.Board{Deals: lines(deal(1, 4, 4))}, noShares(), mine},
	})
	c := config(3, 0)
	for n := range int64(11) {
		for hall := 1; hall <= 3; hall++ {
			posts, e := draw.Post(c, hall, []int64{n}, []int64{1, 2, 3}, full, 0)
			expectLines(t, fmt.Sprint("deal of ", n), posts, e, lines(deal(hall, commitments(c.Group, n)...)))
		}
	}
}

// P9.3: complaints of halls with a deal whose shares do not fit.
func TestPostComplaints(t *testing.T) {
	b := draw.Board{Deals: allDeals()}
	of := func(halls ...int) []draw.Line {
		var list []draw.Line
		for _, hall := range halls {
			list = append(list, complain(1, hall))
		}
		return list
	}
	list := []posting{
		{"all shares", b, allShares(), nil},
		{"no shares", b, noShares(), of(2, 3, 4)},
		{"something in the place of the own one", b, []int64{5, 2, 7, 4}, nil},
		{"the own share in the place of the own one", b, []int64{10, 2, -1, 4}, of(3)},
		{"no deals", draw.Board{}, noShares(), nil},
		{"only the own deal", draw.Board{Deals: allDeals()[:1]}, noShares(), nil},
		{"all deals but the own one", draw.Board{Deals: allDeals()[1:]}, noShares(), of(2, 3, 4)},
		{"all but one deal", draw.Board{Deals: allDeals()[:3]}, noShares(), of(2, 3)},
		{"deals in another order", draw.Board{Deals: lines(deal(4, 3, 1), deal(2, 4, 4), deal(3, 16, 12))}, noShares(), of(2, 3, 4)},
		{"a bad deal", draw.Board{Deals: lines(deal(3, 5, 5), deal(3, 16, 12), deal(2, 4, 4), deal(4, 3, 1))}, noShares(), of(2, 4)},
		{"a second deal, which does not count", draw.Board{Deals: append(allDeals(), deal(3, 4, 4))}, allShares(), nil},
		{"a first deal, which counts", draw.Board{Deals: slices.Insert(allDeals(), 0, deal(3, 4, 4))}, allShares(), of(3)},
		{"complaints that are there", draw.Board{Deals: allDeals(), Complaints: of(3, 2, 3)}, noShares(), of(2, 3, 4)},
		{"complaints of others", draw.Board{Deals: allDeals(), Complaints: lines(complain(2, 3), complain(2, 1))}, allShares(), nil},
		{"answers that are there", draw.Board{Deals: allDeals(), Answers: lines(answers(3, 1, 7))}, noShares(), of(2, 3, 4)},
	}
	for _, n := range []int64{math.MinInt64, 7 - 23, 7 - 11, -2, -1, 0, 6, 8, 10, 11, 7 + 11, 7 + 23, 7 + 11<<32, math.MaxInt64} {
		list = append(list, posting{fmt.Sprint("the share ", n), b, []int64{-1, 2, n, 4}, of(3)})
	}
	expectPostings(t, 1, list)
}

// P9.3: answers for all that complained of the hall.
func TestPostAnswers(t *testing.T) {
	after := func(complaints ...draw.Line) draw.Board {
		return draw.Board{Deals: allDeals(), Complaints: complaints}
	}
	all := lines(complain(4, 1), complain(2, 1), complain(3, 1), complain(2, 1))
	allAnswers := lines(answers(1, 2, 2), answers(1, 3, 5), answers(1, 4, 8))
	other := after(all...)
	other.Deals[0] = deal(1, 4, 4)
	answered := after(all...)
	answered.Answers = lines(answers(1, 2, 2), answers(1, 3, 1))
	list := []posting{
		{"no complaints", after(), noShares(), nil},
		{"one", after(complain(3, 1)), noShares(), allAnswers[1:2]},
		{"by all", after(all...), noShares(), allAnswers},
		{"by all, with shares", after(all...), allShares(), allAnswers},
		{"of others", after(complain(2, 3), complain(1, 2), complain(3, 2)), noShares(), nil},
		{"by itself", after(complain(1, 1)), noShares(), nil},
		{"by no halls", after(complain(0, 1), complain(5, 1), complain(-1, 1)), noShares(), nil},
		{"with numbers", after(draw.Line{Hall: 2, Kind: draw.Complain, Of: 1, Numbers: []int64{1}}), noShares(), nil},
		{"of another kind", after(draw.Line{Hall: 2, Kind: draw.Answer, Of: 1}), noShares(), nil},
		{"when it has no deal", draw.Board{Deals: allDeals()[1:], Complaints: all}, noShares(), nil},
		{"when its deal is bad", draw.Board{Deals: slices.Insert(allDeals(), 0, deal(1, 5, 5)), Complaints: all}, noShares(), nil},
		{"when its deal is another one's", other, noShares(), allAnswers},
		{"when there are answers", answered, noShares(), allAnswers},
		{"by halls with no deal", draw.Board{Deals: allDeals()[:1], Complaints: all}, noShares(), allAnswers},
	}
	expectPostings(t, 2, list)
}

// P9.3: its own polynomial, and shares of the others, if they fit, or else their answers.
func TestPostReveals(t *testing.T) {
	after := func(complaints, answers []draw.Line) draw.Board {
		return draw.Board{Deals: allDeals(), Complaints: complaints, Answers: answers}
	}
	mine := reveal(1, 7, 3)
	shares := lines(opens(1, 2, 2), opens(1, 3, 7), opens(1, 4, 4))
	all := slices.Insert(slices.Clone(shares), 0, mine)
	other := after(nil, nil)
	other.Deals[0] = deal(1, 4, 4)
	revealed := after(nil, nil)
	revealed.Reveals = append(allReveals(), all...)
	list := []posting{
		{"all shares", after(nil, nil), allShares(), all},
		{"no shares", after(nil, nil), noShares(), lines(mine)},
		{"when it is not in", after(lines(complain(2, 1)), nil), allShares(), shares},
		{"when it has no deal", draw.Board{Deals: allDeals()[1:]}, allShares(), shares},
		{"when its deal is another one's", other, allShares(), all},
		{"when its answer is wrong", after(lines(complain(2, 1)), lines(answers(1, 2, 1))), allShares(), shares},
		{"when its answer is right", after(lines(complain(2, 1)), lines(answers(1, 2, 2))), allShares(), all},
		{"when another one is not in", after(lines(complain(2, 3)), nil), allShares(), lines(mine, shares[0], shares[2])},
		{"when another one has no deal", draw.Board{Deals: allDeals()[:3]}, allShares(), all[:3]},
		{"when all of it is there", revealed, allShares(), all},
		{"no shares, but right answers", after(lines(complain(1, 2), complain(1, 3)), lines(answers(3, 1, 7), answers(2, 1, 2))), noShares(), all[:3]},
		{"no shares, but right answers without complaints", after(nil, lines(answers(4, 1, 4), answers(2, 1, 2))), noShares(), lines(mine, shares[0], shares[2])},
		{"a wrong answer without a complaint", after(nil, lines(answers(4, 1, 5), answers(4, 1, 4))), noShares(), lines(mine)},
		{"a wrong answer after a right one", after(nil, lines(answers(4, 1, 4), answers(4, 1, 5))), noShares(), lines(mine, shares[2])},
		{"a share and a wrong answer without a complaint", after(nil, lines(answers(4, 1, 5))), allShares(), all},
		{"a share and a wrong answer after a complaint", after(lines(complain(1, 4)), lines(answers(4, 1, 5))), allShares(), all[:3]},
		{"shares that do not fit, and answers for others", after(nil, lines(answers(4, 2, 4), answers(2, 3, 4), answers(1, 2, 2))), []int64{10, 3, 8, -4}, lines(mine)},
		{"shares that do not fit, and a right answer", after(nil, lines(answers(2, 1, 2))), []int64{10, 3, 8, -4}, lines(mine, shares[0])},
		{"an answer of two numbers", after(nil, lines(draw.Line{Hall: 2, Kind: draw.Answer, Of: 1, Numbers: []int64{2, 2}})), noShares(), lines(mine)},
	}
	for _, n := range []int64{math.MinInt64, 7 - 23, 7 - 11, -2, -1, 0, 6, 8, 10, 11, 7 + 11, 7 + 23, 7 + 11<<32, math.MaxInt64} {
		list = append(list, posting{fmt.Sprint("the share ", n), after(nil, nil), []int64{-1, 2, n, 4}, lines(mine, shares[0], shares[2])})
		list = append(list, posting{fmt.Sprint("the share ", n, " and an answer"), after(nil, lines(answers(3, 1, 7))), []int64{-1, 2, n, 4}, all})
		list = append(list, posting{fmt.Sprint("the answer ", n), after(nil, lines(answers(3, 1, n))), noShares(), lines(mine)})
	}
	expectPostings(t, 3, list)
}

// P9.3: with a deal that is not its own polynomial's, a hall that is in reveals its polynomial all the same: it is a lie.
func TestPostAfterAnotherDeal(t *testing.T) {
	c := config(3, 1)
	b := draw.Board{Deals: lines(deal(1, 4, 4), deal(2, 4, 4)), Complaints: lines(complain(2, 1))}
	posts, e := draw.Post(c, 1, []int64{7, 3}, []int64{-1, 2, -1}, b, 2)
	expectLines(t, "an answer", posts, e, lines(answers(1, 2, 2)))
	b.Answers = posts
	expectVerdict(t, "it does not fit", c, b, verdict{[]int{1, 2}, []int{2}, []int64{-1, -1, -1}, -1, 0, []draw.Guilt{{Hall: 1, Why: draw.Wrong, Line: 0}}})
	b.Complaints, b.Answers = nil, nil
	posts, e = draw.Post(c, 1, []int64{7, 3}, []int64{-1, 2, -1}, b, 3)
	expectLines(t, "a Reveal", posts, e, lines(reveal(1, 7, 3), opens(1, 2, 2)))
	b.Reveals = posts
	expectVerdict(t, "it is false", c, b, verdict{[]int{1, 2}, []int{1, 2}, []int64{-1, -1, -1}, -1, 0, []draw.Guilt{{Hall: 1, Why: draw.False, Line: 0}}})
}

// P9.3: halls and phases that there are not, and numbers that are not from 0 to P - 1.
func TestPostBadArguments(t *testing.T) {
	c := config(4, 1)
	b := draw.Board{Deals: allDeals()}
	poly, got := []int64{7, 3}, allShares()
	refused := func(what string, hall int, poly, got []int64, phase int, want api.Errno) {
		t.Helper()
		posts, e := draw.Post(c, hall, poly, got, b, phase)
		expectError(t, fmt.Sprint("Post: ", what), e, want, posts)
	}
	for _, hall := range wildInts(4) {
		if hall != 1 && hall != 4 {
			refused(fmt.Sprint("hall ", hall), hall, poly, got, 0, api.ErrArg)
			refused(fmt.Sprint("hall ", hall, ", no list"), hall, nil, nil, 3, api.ErrArg)
		}
	}
	for _, phase := range []int{math.MinInt, -1, 4, 5, 1 << 32, math.MaxInt} {
		refused(fmt.Sprint("phase ", phase), 1, poly, got, phase, api.ErrArg)
		refused(fmt.Sprint("phase ", phase, ", no list"), 1, nil, nil, phase, api.ErrArg)
	}
	for _, n := range []int64{math.MinInt64, -11, -1, 11, 12, 1 << 32, math.MaxInt64} {
		for _, list := range [][]int64{{n, 3}, {7, n}, {n}, {7, 3, n}, append(make([]int64, 100), n)} {
			for phase := range 4 {
				refused(fmt.Sprint("poly ", list), 1, list, got, phase, api.ErrArg)
				refused(fmt.Sprint("poly ", list, ", no shares"), 1, list, nil, phase, api.ErrArg)
			}
		}
	}
	for phase := range 4 {
		for _, n := range []int{0, 1, 3, 4, 16, 17, 65, 5000} {
			refused(fmt.Sprint("poly of ", n, " numbers"), 4, make([]int64, n), got, phase, api.ErrShape)
		}
		for _, n := range []int{0, 1, 3, 5, 17, 65, 5000} {
			refused(fmt.Sprint(n, " shares"), 4, poly, make([]int64, n), phase, api.ErrShape)
			refused(fmt.Sprint(n, " wrong shares"), 4, poly, slices.Repeat([]int64{-5}, n), phase, api.ErrShape)
		}
	}
}

// P9.3: polynomials of the least and the greatest numbers, of just as many as there must be.
func TestPostBounds(t *testing.T) {
	for _, p := range []int64{3, 5, 11, 17, 19, 101} {
		for bound := range int(min(16, p-1)) {
			c := draw.Config{Group: found(p), Halls: int(min(16, p-1)), Bound: bound, Balls: 1}
			got := make([]int64, c.Halls)
			for _, n := range []int64{0, p - 1} {
				for _, hall := range []int{1, c.Halls} {
					poly := slices.Repeat([]int64{n}, bound+1)
					posts, e := draw.Post(c, hall, poly, got, draw.Board{}, 0)
					expectLines(t, fmt.Sprint(c, poly), posts, e, lines(deal(hall, commitments(c.Group, poly...)...)))
					for _, other := range [][]int64{poly[1:], append(poly, n)} {
						posts, e := draw.Post(c, hall, other, got, draw.Board{}, 0)
						expectError(t, fmt.Sprint(c, other), e, api.ErrShape, posts)
					}
				}
			}
		}
	}
}

// P9.3: boards of all kinds, compared with the oracle.
func TestPosts(t *testing.T) {
	r := newRandom()
	counts := map[int]int{}
	for range 800 {
		c := someConfig(r, 6)
		polys := somePolys(r, c)
		b := someBoard(r, c, polys, oneOf(r, 2, 5, 20))
		for i, poly := range polys {
			got := make([]int64, c.Halls)
			for sender := range got {
				got[sender] = oneOf(r, -1, mostly(r, c.Group, valueAt(polys[sender], i+1, c.Group.P)), valueAt(polys[sender], i+1, c.Group.P))
			}
			if chance(r, 5) {
				poly = somePoly(r, c)
			}
			for phase := range 4 {
				posts, e := draw.Post(c, i+1, poly, got, b, phase)
				expectLines(t, fmt.Sprint(c, i+1, poly, got, b, phase), posts, e, newOracle(c, b).posts(i+1, poly, got, phase))
				for _, l := range posts {
					counts[l.Kind]++
				}
			}
		}
	}
	for kind := draw.Deal; kind <= draw.Open; kind++ {
		if counts[kind] < 500 {
			t.Errorf("lines by their kinds: %v", counts)
		}
	}
}
