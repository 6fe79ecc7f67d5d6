package hall_test

import (
	"math"
	"slices"
	"strconv"
	"strings"
	"testing"

	"dauber/hall"
	"dauber/share"
)

// honestDraw are the lines of a draw of three halls with the secrets 7, 1 and 2, up to the ball.
func honestDraw() []string {
	return []string{"open 11 3 1", "deal 1 8 18", "deal 2 4 4", "deal 3 16 12", "reveal 1 7 3", "reveal 2 1 1", "reveal 3 2 5"}
}

// drawnFrom returns which number honestDraw calls: its sum is 10.
func drawnFrom(n *hall.Night) int {
	var left []int
	for number := 1; number <= 90; number++ {
		if !slices.Contains(n.Calls(), number) {
			left = append(left, number)
		}
	}
	return left[10%len(left)]
}

// P10.1: what Find and Check refuse, after what the state refuses.
func TestOpen(t *testing.T) {
	n := hall.New()
	expectRefused(t, n, "error 1", "open 0 3 1", "open 1 3 1", "open 2 3 1", "open 4 3 1", "open 9 3 1", "open 65519 30 1", "open 65520 3 1", "open 65522 3 1", "open 65536 3 1", "open 65537 3 1", "open 4294967307 3 1", "open 1000000000000 3 1")
	expectRefused(t, n, "error 1", "open 11 0 0", "open 11 1 0", "open 11 11 1", "open 11 12 1", "open 101 17 1", "open 65521 17 1", "open 65521 4294967299 1", "open 11 3 3", "open 11 3 4", "open 11 2 2", "open 11 3 4294967297", "open 11 3 1000000000000", "open 3 3 1", "open 4 99 99")
	for _, line := range []string{"open 3 2 0", "open 3 2 1", "open 5 4 3", "open 11 2 0", "open 11 10 9", "open 17 16 15", "open 101 16 0", "open 65521 16 15", "open 65521 2 1"} {
		m := hall.New()
		play(t, m, line, "ok", line, "error 5", "open 11 3 1", "error 5", "open 4 3 1", "error 5", "open 11 99 99", "error 5", "guilty", "guilty", "ball", "error 4")
		expectSame(t, "Book", m.Book(), line+"\n")
	}
}

// P10.1: lines that are posted without a draw, and how many numbers they may have.
func TestPostedLines(t *testing.T) {
	posts := []string{"deal 1 8 18", "complain 1 2", "answer 1 2 3", "reveal 1 7 3", "share 1 2 3", ones("deal 1", 64), ones("deal 1", 65), ones("reveal 1", 64), ones("reveal 1", 65), "ball", "guilty"}
	expectRefused(t, hall.New(), "error 5", posts...)
	expectRefused(t, after(t, append(honestDraw(), "ball")...), "error 5", posts...)
	n := after(t, "open 11 3 1")
	play(t, n, ones("deal 1", 1), "ok", ones("deal 1", 64), "ok", ones("reveal 1", 1), "ok", ones("reveal 1", 64), "ok")
	expectRefused(t, n, "error 2", ones("deal 1", 65), ones("deal 1", 66), ones("deal 1", 200), ones("reveal 1", 65), ones("reveal 1", 250), ones("deal 0", 65))
	expectRefused(t, n, "error 100", "deal 1", "reveal 1", "complain 1 2 3", "answer 1 2", "answer 1 2 3 4", "share 1 2", "share 1 2 3 4")
}

// P10.1: each list has at most 100 lines, reveal and share together; ErrLong comes before ErrFull.
func TestFullLists(t *testing.T) {
	deal, complain, answer, reveal, share := "deal 1 1", "complain 1 2", "answer 1 2 3", "reveal 1 1", "share 1 2 3"
	for _, x := range []struct{ posted, full, others []string }{
		{[]string{deal}, []string{deal, "deal 2 4 4"}, []string{complain, answer, reveal, share}},
		{[]string{complain}, []string{complain, "complain 0 0"}, []string{deal, answer, reveal, share}},
		{[]string{answer}, []string{answer, "answer 2 1 2"}, []string{deal, complain, reveal, share}},
		{[]string{reveal}, []string{reveal, share}, []string{deal, complain, answer}},
		{[]string{share}, []string{reveal, share}, []string{deal, complain, answer}},
		{[]string{share, reveal, "reveal 17 1 1 1"}, []string{reveal, share}, []string{deal, complain, answer}},
	} {
		n := after(t, "open 11 3 1")
		for i := range 100 {
			do(t, n, x.posted[i%len(x.posted)])
		}
		expectRefused(t, n, "error 8", x.full...)
		expectRefused(t, n, "error 2", ones("deal 1", 65), ones("reveal 1", 65))
		for _, line := range x.others {
			play(t, n, line, "ok")
		}
	}
}

// P10.1: a draw with lists that are full has a ball; the next draw has lists of its own.
func TestFullAndDrawn(t *testing.T) {
	n := after(t, honestDraw()...)
	for range 97 {
		do(t, n, "deal 9 1", "reveal 1 0 0")
	}
	for range 100 {
		do(t, n, "complain 17 1", "answer 1 17 1")
	}
	expectRefused(t, n, "error 8", "deal 1 1", "complain 1 2", "answer 1 2 3", "reveal 1 7 3", "share 1 2 3")
	play(t, n, "guilty", "guilty 1", "ball", "ok 11")
	do(t, n, honestDraw()...)
	play(t, n, "guilty", "guilty", "ball", "ok 12", "calls", "calls 11 12")
}

// P10.1: lines of halls that there are not count for nothing.
func TestFarHalls(t *testing.T) {
	n := after(t, "open 11 3 1")
	for _, far := range []string{"0", "4", "16", "17", "4294967297", "18", "1000000000000", "99999999999"} {
		do(t, n, "deal "+far+" 4 4", "complain "+far+" 1", "complain 1 "+far, "answer "+far+" 1 1", "answer 1 "+far+" 1", "reveal "+far+" 1 1", "share "+far+" 1 1", "share 1 "+far+" 1")
	}
	play(t, n, "guilty", "guilty", "ball", "error 4")
	do(t, n, honestDraw()[1:]...)
	play(t, n, "guilty", "guilty", "ball", "ok 11")
}

// P10.1: lines of all kinds do in a draw what chapter 9 says.
func TestKinds(t *testing.T) {
	deals := honestDraw()[:4]
	play(t, after(t, slices.Concat(deals, []string{"share 1 2 2", "share 3 2 4", "reveal 1 7 3", "reveal 3 2 5"})...), "guilty", "guilty", "ball", "ok 11")
	play(t, after(t, slices.Concat(deals, []string{"share 1 2 2", "share 3 2 5", "reveal 1 7 3", "reveal 3 2 5"})...), "guilty", "guilty 3", "ball", "error 4")
	play(t, after(t, slices.Concat(deals, []string{"complain 1 2", "reveal 1 7 3", "reveal 3 2 5"})...), "guilty", "guilty 2", "ball", "ok 10")
	play(t, after(t, slices.Concat(deals, []string{"complain 1 2", "answer 2 1 2", "reveal 1 7 3", "reveal 3 2 5"})...), "guilty", "guilty", "ball", "error 4", "share 3 2 4", "ok", "ball", "ok 11")
	play(t, after(t, slices.Concat(deals, []string{"complain 1 2", "answer 2 1 3", "reveal 1 7 3", "reveal 3 2 5"})...), "guilty", "guilty 2", "ball", "ok 10")
	play(t, after(t, slices.Concat(deals, []string{"deal 1 8 18", "deal 3 4 4", "complain 2 3", "reveal 1 7 3", "reveal 2 1 2"})...), "guilty", "guilty 2 3", "ball", "error 4")
	play(t, after(t, "open 11 3 1", "deal 1 8 5", "deal 2 4 4", "deal 3 16 12", "complain 2 3", "complain 1 3", "reveal 2 1 1"), "guilty", "guilty 1 3", "ball", "ok 2")
	play(t, after(t, "open 11 3 1", "deal 3 4 4", "deal 3 16 12", "deal 3 8 18", "complain 1 3", "complain 2 3", "reveal 3 7 7"), "guilty", "guilty 3", "ball", "error 4")
}

// P10.1: a ball calls a number that is not called; a draw has as many balls as there are such numbers.
func TestBall(t *testing.T) {
	for _, called := range [][]int{nil, {11}, {1}, {12}, {90}, upTo(10), upTo(11), upTo(12), upTo(79), upTo(80), upTo(85), upTo(88), upTo(89), {90, 89, 88, 1, 11, 12, 13}} {
		n := hall.New()
		do(t, n, calling(called)...)
		do(t, n, honestDraw()...)
		want := drawnFrom(n)
		play(t, n, "ball", "ok "+strconv.Itoa(want), "calls", numbered("calls", append(called, want)...), "ball", "error 5", "guilty", "error 5", "deal 1 8 18", "error 5")
		expectSame(t, "Calls", n.Calls(), append(called, want))
		expectRefused(t, n, "error 5", "call "+strconv.Itoa(want))
	}
}

// P10.1: each number that is left can be drawn.
func TestAllBalls(t *testing.T) {
	g, _ := share.Find(101)
	seen := map[string]bool{}
	for secret := range g.P {
		commitment, _ := g.Power(secret)
		n := after(t, "call 50", "open 101 2 0", numbered("deal 1", int(commitment)), numbered("reveal 1", int(secret)))
		seen[n.Do("ball")] = true
	}
	expectSame(t, "numbers", len(seen), 89)
	expectSame(t, "the called one", seen["ok 50"], false)
}

// P10.1: all numbers are drawn in one night.
func TestNightOfBalls(t *testing.T) {
	n := hall.New()
	for i := range 90 {
		want := drawnFrom(n)
		do(t, n, honestDraw()...)
		play(t, n, "ball", "ok "+strconv.Itoa(want))
		expectSame(t, "calls", len(n.Calls()), i+1)
	}
	expectRefused(t, n, "error 5", "open 11 3 1", "ball")
	sorted := n.Calls()
	slices.Sort(sorted)
	expectSame(t, "numbers", sorted, upTo(90))
}

// P10.8: the number stays the same, whatever lines reveal and share are added.
func TestBinding(t *testing.T) {
	r := newRandom()
	halls := []string{"0", "1", "2", "3", "4", strconv.Itoa(math.MaxInt32)}
	for range 200 {
		n := after(t, honestDraw()[:4]...)
		for _, i := range r.Perm(3) {
			do(t, n, honestDraw()[4+i])
			for range r.IntN(20) {
				numbers := make([]string, r.IntN(4)+1)
				for j := range numbers {
					numbers[j] = strconv.Itoa(r.IntN(14))
				}
				do(t, n, oneOf(r, "reveal "+oneOf(r, halls...)+" "+strings.Join(numbers, " "), "share "+oneOf(r, halls...)+" "+oneOf(r, halls...)+" "+numbers[0]))
			}
		}
		play(t, n, "ball", "ok 11")
	}
}
