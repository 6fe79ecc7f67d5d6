package hall_test

import (
	"slices"
	"strings"
	"testing"

	"dauber/hall"
)

// P10.1, P10.2: numbers are called once, in any order.
func TestCall(t *testing.T) {
	n := hall.New()
	expectRefused(t, n, "error 1", "call 0", "call 91", "call 100", "call 4294967297", "call 1000000000000")
	play(t, n, "calls", "calls", "call 90", "ok", "call 1", "ok", "call 45", "ok", "calls", "calls 90 1 45")
	expectSame(t, "Calls", n.Calls(), []int{90, 1, 45})
	expectRefused(t, n, "error 5", "call 90", "call 1", "call 45")
	expectRefused(t, n, "error 1", "call 0", "call 91")
	do(t, n, "open 11 2 0")
	expectRefused(t, n, "error 5", "call 90", "call 2", "call 89")
	expectRefused(t, n, "error 1", "call 0", "call 91")
	do(t, n, "deal 1 4", "reveal 1 1", "ball", "call 4", "close")
	play(t, n, "calls", "calls 90 1 45 3 4")
	expectRefused(t, n, "error 5", "call 90", "call 2", "call 89", "call 3")
	expectRefused(t, n, "error 1", "call 0", "call 91")
}

// P10.1, P10.2: all numbers can be called, and then no other one.
func TestAllCalled(t *testing.T) {
	all := upTo(90)
	slices.Reverse(all)
	n := after(t, "strip a 1", "sell a 1 ann")
	do(t, n, calling(all)...)
	expectSame(t, "Calls", n.Calls(), all)
	expectSame(t, "calls", n.Do("calls"), numbered("calls", all...))
	expectRefused(t, n, "error 5", append(calling(all), "open 11 3 1", "open 4 0 9")...)
	play(t, n, "left a 1", "left 0", "chance a 1 0", "chance 1", "chance a 1 1", "error 1", "close", "ok")
}

// P10.1: after close there are no calls, claims and draws; the questions have the same answers.
func TestClose(t *testing.T) {
	n := after(t, "strip a 1", "sell a 1 ann", "sell a 2 bob", "prize 1 10", "prize 3 20", "prize 2 1")
	do(t, n, calling(rowsOf(1, 1)[0])...)
	do(t, n, "claim a 1 1")
	play(t, n, "open 11 2 0", "ok", "close", "error 5", "deal 1 4", "ok", "reveal 1 1", "ok", "close", "error 5")
	do(t, n, "ball")
	before := answersOf(n)
	do(t, n, "close")
	expectSame(t, "answers", answersOf(n), before)
	expectRefused(t, n, "error 5", "close", "call 1", "call 90", "open 11 3 1", "open 4 3 1", "open 11 99 99", "claim a 1 1", "claim a 1 2", "claim a 2 3", "claim a 3 1", "ball", "deal 1 4", "complain 1 2", "answer 1 2 3", "reveal 1 1", "share 1 2 3", "guilty")
	expectRefused(t, n, "error 1", "call 0", "call 91")
	expectRefused(t, n, "error 4", "claim b 1 1", "claim a 7 1", "claim a 0 1", "claim a 1 4", "claim a 1 0")
	expectRefused(t, hall.New(), "error 4", "claim a 1 1")
	empty := after(t, "close")
	expectRefused(t, empty, "error 5", "close", "call 1", "open 11 3 1")
}

// P10.1: a claim after close is refused as such, where it would be accepted or false otherwise.
func TestClaimAfterClose(t *testing.T) {
	n := after(t, "strip a 1", "sell a 1 ann", "sell a 2 bob", "prize 1 10")
	do(t, n, calling(rowsOf(1, 1)[0])...)
	play(t, n.Fork(), "claim a 1 1", "ok", "claim a 2 1", "error 91")
	do(t, n, "close")
	expectRefused(t, n, "error 5", "claim a 1 1", "claim a 2 1", "claim a 3 1")
	expectSame(t, "Paid", n.Paid(), int64(0))
	expectSame(t, "closed at the end", strings.HasSuffix(n.Book(), "\nclose\n"), true)
}
