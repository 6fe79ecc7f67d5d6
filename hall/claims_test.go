package hall_test

import (
	"cmp"
	"slices"
	"strconv"
	"testing"

	"dauber/hall"
)

// twins returns a night with three strips that are the same, whose first tickets were sold to ann, bob and ann, and whose second one of the first strip to bob.
func twins(t *testing.T, prizes ...string) *hall.Night {
	t.Helper()
	return after(t, append([]string{"strip a 1", "strip b 1", "strip c 1", "sell a 1 ann", "sell b 1 bob", "sell c 1 ann", "sell a 2 bob"}, prizes...)...)
}

// P10.1: claims that name what there is not, before all else.
func TestClaimOfNothing(t *testing.T) {
	nothing := []string{"claim d 1 1", "claim a 0 1", "claim a 7 1", "claim a 4294967297 1", "claim a 1 0", "claim a 1 3", "claim a 1 21", "claim a 1 4294967297", "claim a 1 1000000000000", "claim d 0 0", "claim a 6 3", "claim a 7 3"}
	n := twins(t, "prize 1 10", "prize 2 20")
	expectRefused(t, n, "error 4", nothing...)
	do(t, n, calling(rowsOf(1, 1)[0])...)
	expectRefused(t, n, "error 4", nothing...)
	expectRefused(t, after(t, "strip a 1", "sell a 1 ann"), "error 4", "claim a 1 1", "claim a 1 0")
}

// P10.1: claims before any call, too early, and for tickets that were not sold.
func TestClaimTooEarly(t *testing.T) {
	n := twins(t, "prize 1 10", "prize 2 20", "prize 3 30")
	for _, call := range calling(rowsOf(1, 1)[0]) {
		expectRefused(t, n, "error 91", "claim a 1 1", "claim a 1 2", "claim a 1 3", "claim b 1 1", "claim a 2 1")
		expectRefused(t, n, "error 5", "claim a 3 1", "claim b 2 1", "claim a 6 3")
		do(t, n, call)
	}
	expectRefused(t, n, "error 91", "claim a 1 2", "claim a 1 3", "claim a 2 1")
	expectRefused(t, n, "error 5", "claim b 2 1", "claim c 6 1")
	play(t, n, "claim a 1 1", "ok")
}

// P10.1: each goal is reached by the last number of a row, whichever rows come first, and the claim must come at that call.
func TestGoals(t *testing.T) {
	rows := rowsOf(1, 1)
	for _, order := range [][3]int{{0, 1, 2}, {0, 2, 1}, {1, 0, 2}, {1, 2, 0}, {2, 0, 1}, {2, 1, 0}} {
		n := twins(t, "prize 1 10", "prize 2 20", "prize 3 30", "prize 1 40", "prize 2 50", "prize 3 60")
		for i, row := range order {
			do(t, n, calling(rows[order[i]][:4])...)
			expectRefused(t, n, "error 91", "claim a 1 4", "claim a 1 5", "claim a 1 6", "claim a 1 2", "claim a 1 3")
			do(t, n, calling(rows[row][4:])...)
			for goal := range 3 {
				want := "error 91"
				if goal == i {
					want = "ok"
				}
				play(t, n.Fork(), "claim a 1 "+strconv.Itoa(goal+1), want, "claim b 1 "+strconv.Itoa(goal+4), want)
			}
		}
	}
}

// P10.1: the numbers of all three rows, called row by row from the last ones to the first, reach two goals at different calls.
func TestMixedRows(t *testing.T) {
	rows := rowsOf(1, 1)
	n := twins(t, "prize 1 10", "prize 2 20", "prize 3 30")
	do(t, n, calling(rows[0][:4], rows[1][:4], rows[2][:4])...)
	expectRefused(t, n, "error 91", "claim a 1 1", "claim a 1 2", "claim a 1 3")
	for i := range 3 {
		do(t, n, calling(rows[i][4:])...)
		for goal := range 3 {
			// A goal below was won before, and its prize is paid.
			want := []string{"error 91", "ok", "error 5"}[1+cmp.Compare(i, goal)]
			play(t, n, "claim a 1 "+strconv.Itoa(goal+1), want)
		}
	}
	play(t, n, "close", "ok", "money ann", "money 60")
}

// P10.1: one call later the goal had been reached before, whether the prize was won or not.
func TestClaimTooLate(t *testing.T) {
	n := twins(t, "prize 1 10", "prize 1 20")
	do(t, n, calling(rowsOf(1, 1)[0])...)
	late := n.Fork()
	do(t, n, "claim a 1 1", "call "+strconv.Itoa(rowsOf(1, 2)[0][0]))
	expectRefused(t, n, "error 5", "claim b 1 1", "claim a 1 1", "claim c 1 1", "claim a 2 1")
	expectRefused(t, n, "error 91", "claim b 1 2", "claim a 1 2", "claim a 2 2")
	do(t, late, "call "+strconv.Itoa(rowsOf(1, 2)[0][0]))
	expectRefused(t, late, "error 91", "claim a 1 1", "claim b 1 1", "claim a 2 1")
	do(t, late, calling(rowsOf(1, 1)[1])...)
	expectRefused(t, late, "error 91", "claim a 1 1", "claim b 1 1")
	do(t, late, calling(rowsOf(1, 2)[0][1:])...)
	play(t, late, "claim a 2 1", "ok", "claim a 1 1", "error 91", "close", "ok", "money bob", "money 10", "money ann", "money 0")
}

// P10.1, P10.7: the same ticket claims each prize once.
func TestClaimTwice(t *testing.T) {
	n := twins(t, "prize 1 10", "prize 1 20")
	do(t, n, calling(rowsOf(1, 1)[0])...)
	play(t, n, "claim a 1 1", "ok", "claim a 1 1", "error 5", "claim a 1 2", "ok", "claim b 1 1", "ok", "claim a 1 1", "error 5", "claim b 1 1", "error 5", "claim a 2 1", "error 91")
	play(t, n, "close", "ok", "money ann", "money 25", "money bob", "money 5")
}

// P10.1: amounts that do not divide evenly: the claims that were accepted first get 1 more each.
func TestShared(t *testing.T) {
	for _, x := range []struct {
		amount   string
		order    []string
		ann, bob int64
	}{
		{"100", []string{"a", "b", "c"}, 67, 33},
		{"100", []string{"b", "a", "c"}, 66, 34},
		{"100", []string{"c", "a", "b"}, 67, 33},
		{"101", []string{"a", "b", "c"}, 67, 34},
		{"101", []string{"a", "c", "b"}, 68, 33},
		{"101", []string{"b", "c", "a"}, 67, 34},
		{"99", []string{"b", "c", "a"}, 66, 33},
		{"1", []string{"a", "b", "c"}, 1, 0},
		{"1", []string{"b", "a"}, 0, 1},
		{"2", []string{"c", "b", "a"}, 1, 1},
		{"2", []string{"c", "a", "b"}, 2, 0},
		{"3", []string{"c", "a", "b"}, 2, 1},
		{"7", []string{"a", "b"}, 4, 3},
		{"7", []string{"b", "a"}, 3, 4},
		{"7", []string{"c"}, 7, 0},
		{"1000000000000", []string{"a", "b", "c"}, 666666666667, 333333333333},
		{"999999999999", []string{"b", "a"}, 499999999999, 500000000000},
	} {
		n := twins(t, "prize 1 "+x.amount)
		do(t, n, calling(rowsOf(1, 1)[2])...)
		for _, strip := range x.order {
			do(t, n, "claim "+strip+" 1 1")
		}
		expectSame(t, "Paid before", n.Paid(), int64(0))
		do(t, n, "close")
		expectSame(t, x.amount, []int64{n.Won("ann"), n.Won("bob"), n.Paid()}, []int64{x.ann, x.bob, x.ann + x.bob})
		expectSame(t, "Put", n.Put(), n.Paid())
	}
}

// P10.1: prizes are paid at the next call, at ball and at close, and not when these are refused.
func TestPaid(t *testing.T) {
	row := calling(rowsOf(1, 1)[0])
	n := twins(t, "prize 1 10")
	do(t, n, row...)
	do(t, n, "claim a 1 1")
	called := "call " + strconv.Itoa(n.Calls()[0])
	expectRefused(t, n, "error 5", called, "ball")
	expectRefused(t, n, "error 1", "call 0", "call 91", "open 4 3 1")
	expectSame(t, "Paid", n.Paid(), int64(0))
	open := n.Fork()
	do(t, open, honestDraw()...)
	expectRefused(t, open, "error 5", "close", "call 1", "call 90", called)
	play(t, open, "claim b 1 1", "ok", "money ann", "money 0", "ball", "ok "+strconv.Itoa(drawnFrom(open)), "money ann", "money 5", "money bob", "money 5")
	unknown := n.Fork()
	do(t, unknown, honestDraw()[:2]...)
	expectRefused(t, unknown, "error 4", "ball")
	expectSame(t, "Paid when the ball was refused", unknown.Paid(), int64(0))
	for _, last := range []string{"close", "call " + strconv.Itoa(rowsOf(1, 2)[0][0])} {
		m := n.Fork()
		play(t, m, last, "ok", "money ann", "money 10", "claim b 1 1", "error 5", last, "error 5", "money ann", "money 10")
		expectSame(t, "Paid", m.Paid(), int64(10))
	}
}

// P10.1, P10.2: prizes are won at different calls, by the last number, and by nobody.
func TestSeveralPrizes(t *testing.T) {
	rows := rowsOf(1, 1)
	n := twins(t, "prize 3 1000", "prize 1 10", "prize 2 100", "prize 3 5", "prize 1 7")
	do(t, n, calling(rows[0])...)
	do(t, n, "claim a 1 2", "claim b 1 2", "claim b 1 5")
	do(t, n, calling(rows[1])...)
	expectSame(t, "Paid", []int64{n.Paid(), n.Won("ann"), n.Won("bob")}, []int64{17, 5, 12})
	do(t, n, "claim c 1 3")
	do(t, n, calling(rows[2])...)
	expectSame(t, "Paid", []int64{n.Paid(), n.Won("ann"), n.Won("bob")}, []int64{117, 105, 12})
	var others []int
	for number := range 90 {
		if !slices.Contains(slices.Concat(rows[:]...), number+1) {
			others = append(others, number+1)
		}
	}
	last := slices.Index(others, rowsOf(1, 2)[1][3])
	others = append(slices.Delete(others, last, last+1), rowsOf(1, 2)[1][3])
	do(t, n, calling(others)...)
	expectSame(t, "calls", len(n.Calls()), 90)
	play(t, n, "claim a 1 1", "error 91", "claim a 2 1", "ok", "claim a 2 1", "error 5", "claim a 2 3", "error 5", "call 1", "error 5", "money bob", "money 12", "close", "ok", "money bob", "money 1012", "claim a 2 4", "error 5")
	expectSame(t, "Paid", []int64{n.Paid(), n.Put()}, []int64{1117, 1122})
}

// P10.1: two tickets of one player, and two players, win one prize; the last number that is called can be drawn.
func TestWonByTheLastBall(t *testing.T) {
	rows := rowsOf(1, 1)
	last := rows[0][4]
	others := slices.DeleteFunc(upTo(90), func(n int) bool { return n == last })
	n := twins(t, "prize 3 9", "prize 1 4")
	do(t, n, calling(others)...)
	expectRefused(t, n, "error 91", "claim a 1 1", "claim a 1 2", "claim a 2 1")
	do(t, n, honestDraw()...)
	play(t, n, "ball", "ok "+strconv.Itoa(last), "claim c 1 1", "ok", "claim b 1 1", "ok", "claim a 1 1", "ok", "claim a 1 2", "error 91", "open 11 3 1", "error 5", "close", "ok", "money ann", "money 6", "money bob", "money 3")
}
