package draw_test

import (
	"fmt"
	"math"
	"slices"
	"testing"

	"dauber/api"
	"dauber/draw"
)

// judgement is a board of four halls, with Bound 1, and what it says.
type judgement struct {
	name string
	b    draw.Board
	want verdict
}

// The polynomials of the halls of a judgement, if nothing else is said, are (7, 3), (1, 1), (2, 5) and (4, 0), with the shares 10, 2, 5, 8 of the first one; 2, 3, 4, 5; 7, 1, 6, 0; and 4, 4, 4, 4.
func allDeals() []draw.Line {
	return lines(deal(1, 8, 18), deal(2, 4, 4), deal(3, 16, 12), deal(4, 3, 1))
}

func allReveals() []draw.Line {
	return lines(reveal(1, 7, 3), reveal(2, 1, 1), reveal(3, 2, 5), reveal(4, 4, 0))
}

// dealsAnd returns a board with these deals and all Reveals.
func dealsAnd(deals ...draw.Line) draw.Board {
	return draw.Board{Deals: deals, Reveals: allReveals()}
}

// open4 returns a board with all deals, and the Reveals of all halls but the first one, after other lines.
func open4(complaints, answers []draw.Line, reveals ...draw.Line) draw.Board {
	return draw.Board{Deals: allDeals(), Complaints: complaints, Answers: answers, Reveals: slices.Concat(reveals, allReveals()[1:])}
}

// says returns a verdict in which all halls have a deal, the last three are in, and their secrets are known; the first one is in if its secret is not -2, and known if it is not -1.
func says(secret int64, guilt ...draw.Guilt) verdict {
	v := verdict{[]int{1, 2, 3, 4}, []int{1, 2, 3, 4}, []int64{secret, 1, 2, 4}, (secret + 7) % 11, 1 + int(secret+7)%11, guilt}
	switch secret {
	case -2:
		v.in, v.secrets[0], v.sum, v.ball = []int{2, 3, 4}, -1, 7, 8
	case -1:
		v.sum, v.ball = -1, 0
	}
	return v
}

// without returns a verdict in which the first hall has no deal.
func without(guilt ...draw.Guilt) verdict {
	v := says(-2, guilt...)
	v.dealt = v.in
	return v
}

func expectJudgements(t *testing.T, list []judgement) {
	t.Helper()
	for _, x := range list {
		expectVerdict(t, x.name, config(4, 1), x.b, x.want)
	}
}

// P9.2: deals.
func TestDeals(t *testing.T) {
	one, others := deal(1, 8, 18), allDeals()[1:]
	after := func(first ...draw.Line) draw.Board { return dealsAnd(slices.Concat(first, others)...) }
	secondDiffers := says(7, draw.Guilt{Hall: 1, Why: draw.Twice, Line: 1})
	bad := without(draw.Guilt{Hall: 1, Why: draw.Bad, Line: 0})
	badTwice := without(draw.Guilt{Hall: 1, Why: draw.Twice, Line: 1}, draw.Guilt{Hall: 1, Why: draw.Bad, Line: 0})
	list := []judgement{
		{"nothing", draw.Board{}, verdict{nil, nil, []int64{-1, -1, -1, -1}, -1, 0, nil}},
		{"only Reveals", dealsAnd(), verdict{nil, nil, []int64{-1, -1, -1, -1}, -1, 0, nil}},
		{"all", after(one), says(7)},
		{"in any order", dealsAnd(deal(4, 3, 1), deal(2, 4, 4), deal(3, 16, 12), one), says(7)},
		{"one less", after(), without()},
		{"the same twice", after(one, one, one), says(7)},
		{"a second one that differs", after(one, deal(1, 8, 8)), secondDiffers},
		{"a second one with the numbers in another order", after(one, deal(1, 18, 8)), secondDiffers},
		{"a second one of no elements", after(one, deal(1, 8, 5)), secondDiffers},
		{"several that differ", after(one, deal(1, 8, 8), deal(1, 1, 1), one, deal(1, 8, 8)), secondDiffers},
		{"the third one differs", after(one, one, deal(1, 18, 18)), says(7, draw.Guilt{Hall: 1, Why: draw.Twice, Line: 2})},
		{"another polynomial first", after(deal(1, 4, 4), one), says(-1, draw.Guilt{Hall: 1, Why: draw.Twice, Line: 1}, draw.Guilt{Hall: 1, Why: draw.False, Line: 0})},
		{"no element", after(deal(1, 8, 5)), bad},
		{"no element, then a valid one", after(deal(1, 8, 5), one), badTwice},
		{"no element, the same twice, then a valid one", after(deal(1, 5, 18), deal(1, 5, 18), one), without(draw.Guilt{Hall: 1, Why: draw.Twice, Line: 2}, draw.Guilt{Hall: 1, Why: draw.Bad, Line: 0})},
		{"no element, the same twice", after(deal(1, 5, 18), deal(1, 5, 18)), bad},
		{"too few and too many numbers, then a valid one", after(deal(1), deal(1, 8), deal(1, 8, 18, 1), deal(1, 5), deal(1, make([]int64, 64)...), one, deal(1, 8), deal(1, 8, 18, 18)), says(7)},
		{"too few and too many numbers", after(deal(1), deal(1, 8), deal(1, 8, 18, 1)), without()},
		{"with a number in Of", after(draw.Line{Hall: 1, Kind: draw.Deal, Of: -7, Numbers: []int64{8, 18}}, draw.Line{Hall: 1, Kind: draw.Deal, Of: 1, Numbers: []int64{8, 18}}), says(7)},
		{"a Deal in other lists", draw.Board{Deals: others, Complaints: lines(one), Answers: lines(one), Reveals: append(allReveals(), one)}, without()},
	}
	for _, kind := range []int{math.MinInt, -1, 0, 2, 3, 4, 5, 6, math.MaxInt} {
		l := one
		l.Kind = kind
		list = append(list, judgement{fmt.Sprint("of kind ", kind), after(l, deal(1, 8, 18)), says(7)}, judgement{fmt.Sprint("only of kind ", kind), after(l), without()})
	}
	for _, hall := range wildInts(4) {
		if hall != 1 && hall != 4 {
			list = append(list, judgement{fmt.Sprint("of hall ", hall), after(deal(hall, 5, 5), deal(hall, 8, 18), deal(hall, 1, 1)), without()})
		}
	}
	for _, x := range nonElements(config(4, 1).Group) {
		list = append(list, judgement{fmt.Sprint(x, " first"), after(deal(1, x, 18)), bad}, judgement{fmt.Sprint(x, " last"), after(deal(1, 8, x)), bad}, judgement{fmt.Sprint(x, ", then a valid one"), after(deal(1, 8, x), one), badTwice})
	}
	expectJudgements(t, list)
}

// P9.2: complaints that are not answered.
func TestComplaints(t *testing.T) {
	silent := draw.Guilt{Hall: 1, Why: draw.Silent, Line: -1}
	revealed := func(complaints ...draw.Line) draw.Board {
		return open4(complaints, nil, reveal(1, 7, 3))
	}
	list := []judgement{
		{"none", revealed(), says(7)},
		{"one", revealed(complain(2, 1)), says(-2, silent)},
		{"one by the last hall", revealed(complain(4, 1)), says(-2, silent)},
		{"the same twice", revealed(complain(2, 1), complain(2, 1)), says(-2, silent)},
		{"by all", revealed(complain(4, 1), complain(2, 1), complain(3, 1), complain(2, 1)), says(-2, silent, silent, silent)},
		{"of itself", revealed(complain(1, 1)), says(7)},
		{"with a number", revealed(draw.Line{Hall: 2, Kind: draw.Complain, Of: 1, Numbers: []int64{0}}), says(7)},
		{"with many numbers", revealed(draw.Line{Hall: 2, Kind: draw.Complain, Of: 1, Numbers: make([]int64, 64)}), says(7)},
		{"with an empty list of numbers", revealed(draw.Line{Hall: 2, Kind: draw.Complain, Of: 1, Numbers: []int64{}}), says(-2, silent)},
		{"in other lists", draw.Board{Deals: slices.Insert(allDeals(), 0, complain(2, 1)), Answers: lines(complain(2, 1)), Reveals: append(allReveals(), complain(2, 1))}, says(7)},
		{"of a hall with no deal", draw.Board{Deals: allDeals()[1:], Complaints: lines(complain(2, 1), complain(3, 1)), Reveals: allReveals()}, without()},
		{"of a hall with a bad deal", draw.Board{Deals: slices.Insert(allDeals()[1:], 0, deal(1, 8, 5)), Complaints: lines(complain(2, 1)), Reveals: allReveals()}, without(draw.Guilt{Hall: 1, Why: draw.Bad, Line: 0})},
		{"by a hall with no deal", draw.Board{Deals: allDeals()[:3], Complaints: lines(complain(4, 1)), Reveals: allReveals()}, verdict{[]int{1, 2, 3}, []int{2, 3}, []int64{-1, 1, 2, -1}, 3, 4, []draw.Guilt{silent}}},
		{"of each other", revealed(complain(1, 2), complain(2, 1)), verdict{[]int{1, 2, 3, 4}, []int{3, 4}, []int64{-1, -1, 2, 4}, 6, 7, []draw.Guilt{silent, {Hall: 2, Why: draw.Silent, Line: -1}}}},
	}
	for _, kind := range []int{math.MinInt, -1, 0, 1, 3, 4, 5, 6, math.MaxInt} {
		list = append(list, judgement{fmt.Sprint("of kind ", kind), revealed(draw.Line{Hall: 2, Kind: kind, Of: 1}), says(7)})
	}
	for _, hall := range wildInts(4) {
		if hall != 4 {
			list = append(list, judgement{fmt.Sprint("by hall ", hall), revealed(complain(hall, 1)), says(7)})
		}
		if hall != 1 && hall != 4 {
			list = append(list, judgement{fmt.Sprint("of hall ", hall), revealed(complain(2, hall)), says(7)})
		}
	}
	expectJudgements(t, list)
}

// P9.2: answers, and those that are wrong.
func TestAnswers(t *testing.T) {
	complaints := lines(complain(2, 1))
	silent := draw.Guilt{Hall: 1, Why: draw.Silent, Line: -1}
	wrong := func(line int) draw.Guilt { return draw.Guilt{Hall: 1, Why: draw.Wrong, Line: line} }
	revealed := func(answers ...draw.Line) draw.Board { return open4(complaints, answers, reveal(1, 7, 3)) }
	numbers := func(hall, of int, list ...int64) draw.Line {
		return draw.Line{Hall: hall, Kind: draw.Answer, Of: of, Numbers: list}
	}
	list := []judgement{
		{"right", revealed(answers(1, 2, 2)), says(7)},
		{"wrong", revealed(answers(1, 2, 3)), says(-2, wrong(0))},
		{"wrong, then right", revealed(answers(1, 2, 3), answers(1, 2, 2)), says(-2, wrong(0))},
		{"right, then wrong", revealed(answers(1, 2, 2), answers(1, 2, 3)), says(7)},
		{"wrong twice", revealed(answers(1, 3, 5), answers(1, 2, 3), answers(1, 2, 4)), says(-2, wrong(1))},
		{"for others only", revealed(answers(1, 3, 5), answers(1, 4, 8), answers(1, 4, 7)), says(-2, silent)},
		{"wrong ones for others", revealed(answers(1, 3, 1), answers(1, 4, 1), answers(1, 2, 2)), says(7)},
		{"of others", revealed(answers(2, 1, 2), answers(3, 2, 1), answers(4, 2, 4)), says(-2, silent)},
		{"of itself", revealed(answers(1, 1, 10), answers(2, 2, 2)), says(-2, silent)},
		{"too few and too many numbers", revealed(numbers(1, 2), numbers(1, 2, 2, 2), numbers(1, 2, make([]int64, 64)...)), says(-2, silent)},
		{"too few and too many numbers, then a right one", revealed(numbers(1, 2), numbers(1, 2, 3, 2), answers(1, 2, 2)), says(7)},
		{"too few and too many numbers, then a wrong one", revealed(numbers(1, 2), numbers(1, 2, 2, 2), answers(1, 2, 1), answers(1, 2, 2)), says(-2, wrong(2))},
		{"in other lists", draw.Board{Deals: append(allDeals(), answers(1, 2, 2)), Complaints: lines(answers(1, 2, 2), complain(2, 1)), Reveals: append(allReveals(), answers(1, 2, 2))}, says(-2, silent)},
		{"two of three", open4(lines(complain(4, 1), complain(2, 1), complain(3, 1)), lines(answers(1, 4, 8), answers(1, 2, 2)), reveal(1, 7, 3)), says(-2, silent)},
		{"right ones for all", open4(lines(complain(4, 1), complain(2, 1), complain(3, 1)), lines(answers(1, 4, 8), answers(1, 2, 2), answers(1, 3, 5)), reveal(1, 7, 3)), says(7)},
		{"two wrong ones and none", open4(lines(complain(4, 1), complain(2, 1), complain(3, 1)), lines(answers(1, 4, 2), answers(2, 4, 2), answers(1, 2, 8)), reveal(1, 7, 3)), says(-2, silent, wrong(0), wrong(2))},
		{"wrong without a complaint", open4(nil, lines(answers(1, 2, 3), answers(1, 2, 2)), reveal(1, 7, 3)), says(7)},
		{"of a hall with no deal", draw.Board{Deals: allDeals()[1:], Complaints: complaints, Answers: lines(answers(1, 2, 3)), Reveals: allReveals()}, without()},
	}
	for _, n := range []int64{math.MinInt64, 2 - 23, 2 - 11, -1, 0, 1, 3, 10, 11, 12, 2 + 11, 2 + 23, 2 + 11<<32, math.MaxInt64} {
		list = append(list, judgement{fmt.Sprint("the number ", n), revealed(answers(1, 2, n)), says(-2, wrong(0))})
	}
	for _, kind := range []int{math.MinInt, -1, 0, 1, 2, 4, 5, 6, math.MaxInt} {
		l := draw.Line{Hall: 1, Kind: kind, Of: 2, Numbers: []int64{2}}
		list = append(list, judgement{fmt.Sprint("of kind ", kind), revealed(l), says(-2, silent)})
	}
	for _, hall := range wildInts(4) {
		if hall != 1 {
			list = append(list, judgement{fmt.Sprint("of hall ", hall), revealed(answers(hall, 2, 2)), says(-2, silent)})
		}
		list = append(list, judgement{fmt.Sprint("for hall ", hall), revealed(answers(1, hall, 2)), says(-2, silent)})
	}
	expectJudgements(t, list)
}

// P9.2: answers with the numbers 0, P - 1, -1 and P: of polynomials that have the shares 0 and P - 1.
func TestAnswersAtTheEnds(t *testing.T) {
	for share, deals := range map[int64]draw.Line{0: deal(1, 1, 1), 10: deal(1, commitments(config(4, 1).Group, 10, 0)...)} {
		for _, n := range []int64{-11, -1, 0, 10, 11, 21} {
			want := says(share)
			if n != share {
				want = says(-2, draw.Guilt{Hall: 1, Why: draw.Wrong, Line: 0})
			}
			b := open4(lines(complain(3, 1)), lines(answers(1, 3, n)), reveal(1, share, 0))
			b.Deals[0] = deals
			expectVerdict(t, fmt.Sprint("answer ", n, " for the share ", share), config(4, 1), b, want)
		}
	}
}

// P9.2: lines of Kind Reveal.
func TestReveals(t *testing.T) {
	isFalse := func(line int) draw.Guilt { return draw.Guilt{Hall: 1, Why: draw.False, Line: line} }
	revealed := func(reveals ...draw.Line) draw.Board { return open4(nil, nil, reveals...) }
	ofNone := func(reveals ...draw.Line) draw.Board {
		b := revealed(reveals...)
		b.Deals = b.Deals[1:]
		return b
	}
	ofOne := func(reveals ...draw.Line) draw.Board { return open4(lines(complain(3, 1)), nil, reveals...) }
	silent := draw.Guilt{Hall: 1, Why: draw.Silent, Line: -1}
	right := reveal(1, 7, 3)
	list := []judgement{
		{"none", revealed(), says(-1)},
		{"right", revealed(right), says(7)},
		{"right, twice", revealed(right, right), says(7)},
		{"wrong, then right", revealed(reveal(1, 7, 4), right), says(7, isFalse(0))},
		{"right, then wrong", revealed(right, reveal(1, 6, 3), reveal(1, 3, 7)), says(7, isFalse(1), isFalse(2))},
		{"the same wrong one twice", revealed(reveal(1, 1, 1), reveal(1, 1, 1)), says(-1, isFalse(0), isFalse(1))},
		{"the constant coefficient wrong", revealed(reveal(1, 6, 3)), says(-1, isFalse(0))},
		{"the other one wrong", revealed(reveal(1, 7, 2)), says(-1, isFalse(0))},
		{"of another hall's polynomial", revealed(reveal(1, 1, 1)), says(-1, isFalse(0))},
		{"too few and too many numbers", revealed(reveal(1), reveal(1, 7), reveal(1, 7, 3, 0), reveal(1, make([]int64, 64)...)), says(-1)},
		{"in other lists", draw.Board{Deals: append(allDeals(), right), Complaints: lines(right), Answers: lines(right), Reveals: allReveals()[1:]}, says(-1)},
		{"with a number in Of", revealed(draw.Line{Hall: 1, Kind: draw.Reveal, Of: 99, Numbers: []int64{7, 3}}), says(7)},
		{"with itself in Of", revealed(draw.Line{Hall: 1, Kind: draw.Reveal, Of: 1, Numbers: []int64{7, 3}}), says(7)},
		{"of a hall with no deal", ofNone(right, reveal(1, 7, 4), reveal(1, -1, 11)), without()},
		{"of a hall that is not in", ofOne(right), says(-2, silent)},
		{"wrong, of a hall that is not in", ofOne(right, reveal(1, 7, 4), reveal(1, 7)), says(-2, silent, isFalse(1))},
	}
	for _, n := range []int64{math.MinInt64, 7 - 22, 7 - 11, -1, 10, 11, 7 + 11, 7 + 22, 7 + 23, 7 + 11<<32, math.MaxInt64} {
		list = append(list, judgement{fmt.Sprint("the constant coefficient ", n), revealed(reveal(1, n, 3)), says(-1, isFalse(0))})
		list = append(list, judgement{fmt.Sprint("the last coefficient ", n-4), revealed(reveal(1, 7, n-4)), says(-1, isFalse(0))})
	}
	for _, kind := range []int{math.MinInt, -1, 0, 1, 2, 3, 5, 6, math.MaxInt} {
		list = append(list, judgement{fmt.Sprint("of kind ", kind), revealed(draw.Line{Hall: 1, Kind: kind, Numbers: []int64{7, 3}}), says(-1)})
	}
	for _, hall := range wildInts(4) {
		if hall != 1 && hall != 4 {
			list = append(list, judgement{fmt.Sprint("of hall ", hall), revealed(reveal(hall, 7, 3), reveal(hall, 7, 4)), says(-1)})
		}
	}
	expectJudgements(t, list)
}

// P9.2: lines of Kind Open.
func TestOpens(t *testing.T) {
	isFalse := func(hall, line int) draw.Guilt { return draw.Guilt{Hall: hall, Why: draw.False, Line: line} }
	opened := func(reveals ...draw.Line) draw.Board { return open4(nil, nil, reveals...) }
	numbers := func(list ...int64) draw.Line { return draw.Line{Hall: 3, Kind: draw.Open, Of: 1, Numbers: list} }
	two, three, four := opens(2, 1, 2), opens(3, 1, 5), opens(4, 1, 8)
	ofNone := opened(two, three, opens(4, 1, 9), opens(4, 1, -1))
	ofNone.Deals = ofNone.Deals[1:]
	notIn := open4(lines(complain(2, 1)), nil, two, three, opens(4, 1, 9))
	byNone := draw.Board{Deals: allDeals()[:1], Reveals: lines(three, two)}
	byOut := open4(lines(complain(1, 2), complain(1, 3)), nil, two, three, opens(2, 1, 3))
	list := []judgement{
		{"at t places", opened(two), says(-1)},
		{"at t places, often", opened(two, two, two), says(-1)},
		{"at t + 1 places", opened(two, three), says(7)},
		{"at other t + 1 places", opened(four, two), says(7)},
		{"at all places", opened(four, three, two), says(7)},
		{"a wrong one beside right ones", opened(opens(2, 1, 3), two, three), says(7, isFalse(2, 0))},
		{"two different ones", opened(two, opens(3, 1, 6), opens(2, 1, 3)), says(-1, isFalse(2, 2), isFalse(3, 1))},
		{"of the own hall", opened(opens(1, 1, 10), opens(1, 1, 9), two), says(-1)},
		{"other halls' shares", opened(opens(2, 1, 5), opens(3, 1, 2)), says(-1, isFalse(2, 0), isFalse(3, 1))},
		{"too few and too many numbers", opened(two, numbers(), numbers(5, 5), numbers(make([]int64, 64)...)), says(-1)},
		{"of a hall with no deal", ofNone, without()},
		{"of a hall that is not in", notIn, says(-2, draw.Guilt{Hall: 1, Why: draw.Silent, Line: -1})},
		{"by halls with no deal", byNone, verdict{[]int{1}, []int{1}, []int64{7, -1, -1, -1}, 7, 8, nil}},
		{"by halls that are not in", byOut, verdict{[]int{1, 2, 3, 4}, []int{1, 4}, []int64{7, -1, -1, 4}, 0, 1, []draw.Guilt{{Hall: 2, Why: draw.Silent, Line: -1}, {Hall: 3, Why: draw.Silent, Line: -1}, {Hall: 2, Why: draw.False, Line: 2}}}},
		{"in other lists", draw.Board{Deals: append(allDeals(), two, three), Complaints: lines(two, three), Answers: lines(two, three), Reveals: allReveals()[1:]}, says(-1)},
	}
	for _, n := range []int64{math.MinInt64, 5 - 22, 5 - 11, -1, 0, 10, 11, 5 + 11, 5 + 22, 5 + 23, 5 + 11<<32, math.MaxInt64} {
		list = append(list, judgement{fmt.Sprint("the number ", n), opened(two, opens(3, 1, n)), says(-1, isFalse(3, 1))})
	}
	for _, kind := range []int{math.MinInt, -1, 0, 1, 2, 3, 4, 6, math.MaxInt} {
		list = append(list, judgement{fmt.Sprint("of kind ", kind), opened(two, draw.Line{Hall: 3, Kind: kind, Of: 1, Numbers: []int64{5}}), says(-1)})
	}
	for _, hall := range wildInts(4) {
		if hall != 4 {
			list = append(list, judgement{fmt.Sprint("by hall ", hall), opened(two, opens(hall, 1, 8), opens(hall, 1, 5)), says(-1)})
		}
		if hall != 1 && hall != 4 {
			list = append(list, judgement{fmt.Sprint("of hall ", hall), opened(two, opens(3, hall, 5)), says(-1)})
		}
	}
	expectJudgements(t, list)
}

// P9.2: right answers are known shares, those without a complaint too; a place that an answer and an Open give is one.
func TestKnownShares(t *testing.T) {
	list := []judgement{
		{"an answer and an Open at one place", open4(nil, lines(answers(1, 2, 2)), opens(2, 1, 2)), says(-1)},
		{"an answer and an Open at one place, after a complaint", open4(lines(complain(2, 1)), lines(answers(1, 2, 2)), opens(2, 1, 2)), says(-1)},
		{"an answer and an Open at two places", open4(nil, lines(answers(1, 2, 2)), opens(3, 1, 5)), says(7)},
		{"an answer and an Open at two places, after a complaint", open4(lines(complain(2, 1)), lines(answers(1, 2, 2)), opens(3, 1, 5)), says(7)},
		{"two answers", open4(nil, lines(answers(1, 4, 8), answers(1, 2, 2))), says(7)},
		{"two answers, after complaints", open4(lines(complain(2, 1), complain(4, 1)), lines(answers(1, 4, 8), answers(1, 2, 2))), says(7)},
		{"the same answer twice", open4(nil, lines(answers(1, 2, 2), answers(1, 2, 2))), says(-1)},
		{"a wrong answer before a right one", open4(nil, lines(answers(1, 2, 3), answers(1, 2, 2), answers(1, 3, 5))), says(-1)},
		{"a right answer before a wrong one", open4(nil, lines(answers(1, 2, 2), answers(1, 2, 3), answers(1, 3, 5))), says(7)},
		{"a wrong answer, and a right Open, at one place", open4(nil, lines(answers(1, 2, 3), answers(1, 3, 5)), opens(2, 1, 2)), says(7)},
		{"an answer for itself", open4(nil, lines(answers(1, 1, 10), answers(1, 3, 5))), says(-1)},
		{"other halls' answers", open4(nil, lines(answers(2, 1, 2), answers(3, 1, 7), answers(4, 1, 4))), says(-1)},
	}
	expectJudgements(t, list)
}

// P9.2: with Bound 0 one share is enough; with the greatest one only a Reveal is.
func TestBounds(t *testing.T) {
	c := config(4, 0)
	b := draw.Board{Deals: lines(deal(1, 8), deal(3, 16), deal(4, 5)), Reveals: lines(opens(2, 1, 7), opens(4, 3, 2))}
	bad := []draw.Guilt{{Hall: 4, Why: draw.Bad, Line: 2}}
	expectVerdict(t, "Bound 0", c, b, verdict{[]int{1, 3}, []int{1, 3}, []int64{7, -1, 2, -1}, 9, 10, bad})
	b.Reveals = b.Reveals[:1]
	expectVerdict(t, "Bound 0, one Open less", c, b, verdict{[]int{1, 3}, []int{1, 3}, []int64{7, -1, -1, -1}, -1, 0, bad})
	c = config(3, 2)
	b = draw.Board{Deals: lines(deal(1, 8, 18, 4)), Answers: lines(answers(1, 2, 6), answers(1, 3, 3)), Reveals: lines(opens(2, 1, 6), opens(3, 1, 3))}
	expectVerdict(t, "Bound 2", c, b, verdict{[]int{1}, []int{1}, []int64{-1, -1, -1}, -1, 0, nil})
	b.Reveals = append(b.Reveals, reveal(1, 7, 3, 1))
	expectVerdict(t, "Bound 2, with a Reveal", c, b, verdict{[]int{1}, []int{1}, []int64{7, -1, -1}, 7, 8, nil})
}

// P9.2: all sums with all numbers of balls.
func TestBalls(t *testing.T) {
	g := found(101)
	for secret := range g.P {
		for balls := 1; balls <= 90; balls++ {
			c := draw.Config{Group: g, Halls: 2, Bound: 0, Balls: balls}
			b := draw.Board{Deals: lines(deal(1, commitments(g, secret)...), deal(2, commitments(g, 100)...)), Reveals: lines(reveal(1, secret), opens(1, 2, 100))}
			want := (secret + 100) % 101
			sum, e := draw.Sum(c, b)
			if sum != want || e != api.OK {
				t.Fatalf("Sum of %v: %d, %d; want %d", b, sum, e, want)
			}
			ball, e := draw.Ball(c, b)
			if ball != int(want)%balls+1 || e != api.OK {
				t.Fatalf("Ball of %v, %d balls: %d, %d; want %d", b, balls, ball, e, int(want)%balls+1)
			}
		}
	}
}

// P9.2: the secrets of halls that there are not.
func TestSecretsOfNoHall(t *testing.T) {
	for _, halls := range []int{2, 4, 10} {
		c := config(halls, 1)
		polys := slices.Repeat([][]int64{{7, 3}}, halls)
		b := run(c, polys, draw.Board{}, nil)
		for _, hall := range append(wildInts(halls), 2, 3, 5, 9, 11) {
			secret, e := draw.Secret(c, b, hall)
			if hall >= 1 && hall <= halls {
				expectSame(t, fmt.Sprint("Secret of ", hall), []any{secret, e}, []any{7, api.OK})
			} else {
				expectError(t, fmt.Sprint("Secret of ", hall), e, api.ErrNone, secret)
			}
		}
	}
}

// P9.2: the order of guilt: by reasons, then halls, then lines, whatever the order of the lines is.
func TestOrderOfGuilt(t *testing.T) {
	b := draw.Board{
		Deals:      lines(deal(4, 5, 5), deal(2, 4, 4), deal(2, 4, 16), deal(1, 8, 18), deal(4, 3, 1), deal(3, 16, 12), deal(1, 8, 8)),
		Complaints: lines(complain(3, 2), complain(4, 1), complain(1, 3), complain(2, 1), complain(4, 2), complain(3, 1), complain(4, 3)),
		Answers:    lines(answers(3, 4, 1), answers(1, 4, 1), answers(1, 2, 1), answers(3, 1, 9)),
		Reveals:    lines(reveal(3, 1, 1), reveal(1, 1, 1), reveal(3, 2, 2)),
	}
	want := []draw.Guilt{{1, draw.Twice, 6}, {2, draw.Twice, 2}, {4, draw.Twice, 4}, {4, draw.Bad, 0}, {1, draw.Silent, -1}, {2, draw.Silent, -1}, {2, draw.Silent, -1}, {1, draw.Wrong, 1}, {1, draw.Wrong, 2}, {3, draw.Wrong, 0}, {3, draw.Wrong, 3}, {1, draw.False, 1}, {3, draw.False, 0}, {3, draw.False, 2}}
	expectVerdict(t, "much guilt", config(4, 1), b, verdict{[]int{1, 2, 3}, nil, []int64{-1, -1, -1, -1}, -1, 0, want})
}

// P9.2: boards of all kinds, compared with the oracle.
func TestBoards(t *testing.T) {
	r := newRandom()
	balls, in := 0, 0
	reasons := map[int]int{}
	for range 3000 {
		c := someConfig(r, 6)
		b := someBoard(r, c, somePolys(r, c), oneOf(r, 2, 5, 20, 1000))
		want := newOracle(c, b).verdict()
		expectSame(t, fmt.Sprint(c, b), verdictOf(t, c, b), want)
		balls += min(want.ball, 1)
		in += min(len(want.in), 1)
		for _, guilt := range want.guilt {
			reasons[guilt.Why]++
		}
	}
	if balls < 500 || in-balls < 500 || slices.Min([]int{reasons[1], reasons[2], reasons[3], reasons[4], reasons[5]}) < 200 {
		t.Errorf("%d boards with a hall that is in, %d with a ball; guilt: %v", in, balls, reasons)
	}
}

// P9.2: many halls, in great groups.
func TestLargeBoards(t *testing.T) {
	r := newRandom()
	for _, p := range []int64{17, 19, 101, 4093} {
		for _, bound := range []int{0, 7, 14, 15} {
			c := draw.Config{Group: found(p), Halls: 16, Bound: bound, Balls: 90}
			b := someBoard(r, c, somePolys(r, c), 10)
			for phase := range 4 {
				list := listOf(&b, phase)
				*list = (*list)[:min(len(*list), 400)]
			}
			expectSame(t, fmt.Sprint(c), verdictOf(t, c, b), newOracle(c, b).verdict())
		}
	}
}

// The numbers of kinds and reasons.
func TestConstants(t *testing.T) {
	expectSame(t, "kinds", []int{draw.Deal, draw.Complain, draw.Answer, draw.Reveal, draw.Open}, []int{1, 2, 3, 4, 5})
	expectSame(t, "reasons", []int{draw.Twice, draw.Bad, draw.Silent, draw.Wrong, draw.False}, []int{1, 2, 3, 4, 5})
}
