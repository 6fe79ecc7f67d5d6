package draw_test

import (
	"fmt"
	"math/rand/v2"
	"slices"
	"testing"

	"dauber/api"
	"dauber/draw"
)

// arguments are what all calls of the package take.
type arguments struct {
	c         draw.Config
	b, posted draw.Board
	hall      int
	poly, got []int64
	phase     int
	polys     [][]int64
	lost      [][2]int
}

// made is a call, with the most lines that a list of its board may have, its error, and its other results.
type made struct {
	name    string
	most    int
	e       api.Errno
	results []any
}

// everyCall makes all calls that take a board; Run gets that of the others, or if it is empty the same one.
func everyCall(a arguments) []made {
	var calls []made
	keep := func(name string, most int, e api.Errno, results ...any) {
		calls = append(calls, made{name, most, e, results})
	}
	halls, e := draw.Dealt(a.c, a.b)
	keep("Dealt", 400, e, halls)
	halls, e = draw.In(a.c, a.b)
	keep("In", 400, e, halls)
	secret, e := draw.Secret(a.c, a.b, a.hall)
	keep("Secret", 400, e, secret)
	sum, e := draw.Sum(a.c, a.b)
	keep("Sum", 400, e, sum)
	ball, e := draw.Ball(a.c, a.b)
	keep("Ball", 400, e, ball)
	guilt, e := draw.Guilty(a.c, a.b)
	keep("Guilty", 400, e, guilt)
	posts, e := draw.Post(a.c, a.hall, a.poly, a.got, a.b, a.phase)
	keep("Post", 400, e, posts)
	posted := a.posted
	if fmt.Sprint(posted) == fmt.Sprint(draw.Board{}) {
		posted = a.b
	}
	board, e := draw.Run(a.c, a.polys, posted, a.lost)
	keep("Run", 100, e, board)
	return calls
}

// ordinary arguments are valid for three halls with Bound 1 and the group of 11.
func ordinary(c draw.Config) arguments {
	b := draw.Board{Deals: lines(deal(1, 8, 18), deal(2, 4, 4)), Complaints: lines(complain(2, 1)), Answers: lines(answers(1, 2, 2)), Reveals: lines(reveal(1, 7, 3), opens(2, 1, 2))}
	return arguments{c: c, b: b, hall: 1, poly: []int64{7, 3}, got: []int64{-1, 2, 7}, phase: 3, polys: [][]int64{{7, 3}, nil, {2, 5}}, lost: [][2]int{{1, 2}}}
}

// someArguments are valid or not.
func someArguments(r *rand.Rand) arguments {
	c := someConfig(r, 5)
	a := arguments{c: c, hall: 1 + r.IntN(c.Halls), phase: r.IntN(4), polys: somePolys(r, c), lost: someLost(r, c, 10)}
	a.b, a.posted = someBoard(r, c, a.polys, 4), someBoard(r, c, somePolys(r, c), 4)
	a.poly = slices.Clone(a.polys[a.hall-1])
	for _, poly := range a.polys {
		a.got = append(a.got, oneOf(r, -1, valueAt(poly, a.hall, c.Group.P)))
	}
	for i := range a.polys {
		if chance(r, 3) {
			a.polys[i] = nil
		}
	}
	if chance(r, 2) {
		return a
	}
	return wildly(r, a)
}

// wildly changes some of the arguments.
func wildly(r *rand.Rand, a arguments) arguments {
	for _, n := range []*int{&a.c.Halls, &a.c.Bound, &a.c.Balls, &a.hall, &a.phase} {
		if chance(r, 10) {
			*n = oneOf(r, wildInts(a.c.Halls)...)
		}
	}
	for _, n := range []*int64{&a.c.Group.R, &a.c.Group.P, &a.c.Group.G, &a.poly[0], &a.got[0]} {
		if chance(r, 12) {
			*n = oneOf(r, wildNumbers(a.c.Group)...)
		}
	}
	for _, list := range []*[]int64{&a.poly, &a.got, &a.polys[0]} {
		if chance(r, 8) {
			*list = oneOf(r, nil, slices.Clone((*list)[:len(*list)/2]), slices.Concat(*list, []int64{1}), make([]int64, 70))
		}
	}
	if chance(r, 12) {
		a.polys = oneOf(r, nil, a.polys[1:], append(a.polys, nil))
	}
	if chance(r, 12) {
		list := listOf(oneOf(r, &a.b, &a.posted), r.IntN(4))
		*list = append(*list, oneOf(r, make([]draw.Line, 401), lines(reveal(1, make([]int64, 65)...)))...)
	}
	return a
}

// numbers returns all lists of numbers among the arguments.
func (a *arguments) numbers() []*[]int64 {
	all := []*[]int64{&a.poly, &a.got}
	for i := range a.polys {
		all = append(all, &a.polys[i])
	}
	return append(all, append(numbersOf(&a.b), numbersOf(&a.posted)...)...)
}

// numbersOf returns the numbers of all lines of a board.
func numbersOf(b *draw.Board) []*[]int64 {
	var all []*[]int64
	for phase := range 4 {
		list := *listOf(b, phase)
		for i := range list {
			all = append(all, &list[i].Numbers)
		}
	}
	return all
}

// guarded returns a copy of the arguments whose lists have an element beyond their length that must stay.
func (a arguments) guarded() arguments {
	a.b, a.posted, a.polys = cloned(a.b), cloned(a.posted), slices.Clone(a.polys)
	for _, list := range a.numbers() {
		*list = append(slices.Clone(*list), -77)[:len(*list)]
	}
	for phase := range 4 {
		for _, b := range []*draw.Board{&a.b, &a.posted} {
			list := listOf(b, phase)
			*list = append(*list, deal(77, 77))[:len(*list)]
		}
	}
	a.polys = append(a.polys, []int64{-77})[:len(a.polys)]
	a.lost = append(slices.Clone(a.lost), [2]int{77, 77})[:len(a.lost)]
	return a
}

// whole writes guarded arguments with what lies beyond the lengths of their lists.
func (a arguments) whole() string {
	text := fmt.Sprint(a, a.polys[:len(a.polys)+1], a.lost[:len(a.lost)+1])
	for _, list := range a.numbers() {
		text += fmt.Sprint((*list)[:len(*list)+1])
	}
	for phase := range 4 {
		for _, b := range []*draw.Board{&a.b, &a.posted} {
			list := *listOf(b, phase)
			text += fmt.Sprint(list[:len(list)+1])
		}
	}
	return text
}

// overwrite changes all elements of all lists among the results, also beyond their lengths. The numbers of each line are written over by others, and then must be those still: they share no memory.
func overwrite(t *testing.T, calls []made) {
	t.Helper()
	var all []*[]int64
	for _, call := range calls {
		for _, result := range call.results {
			switch x := result.(type) {
			case []int:
				fill(x, -99)
			case []draw.Guilt:
				fill(x, draw.Guilt{Hall: -99})
			case []draw.Line:
				all = append(all, numbersOf(&draw.Board{Deals: x})...)
			case draw.Board:
				all = append(all, numbersOf(&x)...)
			}
		}
	}
	for i, list := range all {
		fill(*list, -99-int64(i))
	}
	for i, list := range all {
		if whole := (*list)[:cap(*list)]; len(whole) > 0 && (whole[0] != -99-int64(i) || whole[len(whole)-1] != -99-int64(i)) {
			t.Fatalf("results share memory: %v", calls)
		}
	}
	for _, call := range calls {
		if posts, is := call.results[0].([]draw.Line); is {
			fill(posts, draw.Line{Hall: -99})
		}
		if board, is := call.results[0].(draw.Board); is {
			for phase := range 4 {
				fill(*listOf(&board, phase), draw.Line{Hall: -99 - phase})
			}
			for phase := range 4 {
				if list := *listOf(&board, phase); len(list) > 0 && (list[0].Hall != -99-phase || list[len(list)-1].Hall != -99-phase) {
					t.Fatalf("lists of a board share memory: %v", calls)
				}
			}
		}
	}
}

func fill[T any](list []T, x T) {
	list = list[:cap(list)]
	for i := range list {
		list[i] = x
	}
}

// P1, R4, R7: no call panics, changes its arguments, or reads or writes beyond their length; calls done again have the same results.
func TestCallsLeaveArguments(t *testing.T) {
	r := newRandom()
	for range 1500 {
		a := someArguments(r)
		given := a.guarded()
		before := given.whole()
		got := everyCall(given)
		want := fmt.Sprint(got)
		overwrite(t, got)
		if given.whole() != before {
			t.Fatalf("changed: %s", before)
		}
		if fmt.Sprint(everyCall(given)) != want {
			t.Fatalf("not the same when the results were overwritten: %s", before)
		}
		if fmt.Sprint(everyCall(a)) != want {
			t.Fatalf("not the same with other capacities: %s", before)
		}
	}
}

// R2: beside an error there are zero values.
func TestNothingBesideErrors(t *testing.T) {
	r := newRandom()
	failed := map[api.Errno]int{}
	for range 2000 {
		for _, call := range everyCall(someArguments(r)) {
			failed[call.e]++
			if call.e != api.OK {
				expectError(t, call.name, call.e, call.e, call.results...)
			}
		}
	}
	for _, e := range []api.Errno{api.OK, api.ErrArg, api.ErrLong, api.ErrShape, api.ErrGroup, api.ErrNone} {
		if failed[e] < 20 {
			t.Errorf("%d calls returned %d", failed[e], e)
		}
	}
	if len(failed) > 6 {
		t.Errorf("there are other errors: %v", failed)
	}
}
