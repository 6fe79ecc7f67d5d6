package hall_test

import (
	"math/big"
	"slices"
	"strconv"
	"strings"
	"testing"

	"dauber/hall"
)

// P10.1: questions about tickets that there are not.
func TestNoTicket(t *testing.T) {
	for _, n := range []*hall.Night{after(t, "strip a 1"), after(t, "strip a 1", "sell a 1 ann", "call 1"), after(t, "strip a 1", "close")} {
		for _, at := range []string{"b 1", "a 0", "a 7", "a 8", "a 4294967297", "a 1000000000000", "b 0", "aa 1", "b 7"} {
			expectRefused(t, n, "error 4", "ticket "+at, "left "+at, "chance "+at+" 0", "chance "+at+" 90", "chance "+at+" 91", "chance "+at+" 1000000000000")
		}
	}
	expectRefused(t, hall.New(), "error 4", "ticket a 1", "left a 1", "chance a 1 1", "chance a 1 91")
}

// P10.1: how many numbers of a ticket are left, call by call, whether it was sold or not.
func TestLeft(t *testing.T) {
	n := after(t, "strip a 1", "sell a 1 ann")
	o := oracle{done: []event{{words: []string{"strip", "a", "1"}}}}
	for _, call := range calling(upTo(90)) {
		for number := range 6 {
			at := "a " + strconv.Itoa(number+1)
			play(t, n, "left "+at, o.answer("left "+at), "ticket "+at, o.answer("ticket "+at))
		}
		do(t, n, call)
		o.do(call)
	}
	for number := range 6 {
		play(t, n, "left a "+strconv.Itoa(number+1), "left 0")
	}
}

// P10.1: chances of tickets, by choosing the calls: of C calls all sets are equally likely, and those that have all k numbers are C(free - k, C - k).
func TestChance(t *testing.T) {
	r := newRandom()
	n := after(t, "strip a 1")
	for called, call := range r.Perm(90) {
		free := int64(90 - called)
		left, _ := strconv.ParseInt(strings.TrimPrefix(n.Do("left a 1"), "left "), 10, 64)
		for c := range free + 1 {
			var all, full big.Int
			all.Binomial(free, c)
			if c >= left {
				full.Binomial(free-left, c-left)
			}
			want := new(big.Rat).SetFrac(&full, &all).RatString()
			play(t, n, "chance a 1 "+strconv.FormatInt(c, 10), "chance "+want)
		}
		expectRefused(t, n, "error 1", "chance a 1 "+strconv.FormatInt(free+1, 10), "chance a 2 91", "chance a 1 1000000000000", "chance a 1 4294967296")
		do(t, n, "call "+strconv.Itoa(call+1))
	}
	play(t, n, "chance a 1 0", "chance 1", "chance a 6 0", "chance 1", "chance a 1 1", "error 1", "chance a 7 0", "error 4")
}

// P10.1: chances that can be told by hand.
func TestChanceByHand(t *testing.T) {
	rows := rowsOf(1, 1)
	numbers := slices.Concat(rows[:]...)
	n := after(t, "strip a 1")
	play(t, n, "chance a 1 0", "chance 0", "chance a 1 14", "chance 0", "chance a 1 15", "chance 1/45795673964460816", "chance a 1 89", "chance 5/6", "chance a 1 90", "chance 1")
	do(t, n, calling(numbers[:14])...)
	play(t, n, "chance a 1 0", "chance 0", "chance a 1 1", "chance 1/76", "chance a 1 38", "chance 1/2", "chance a 1 76", "chance 1", "chance a 1 77", "error 1")
	do(t, n, calling(numbers[14:])...)
	play(t, n, "chance a 1 0", "chance 1", "chance a 1 1", "chance 1", "chance a 1 75", "chance 1", "chance a 1 76", "error 1")
}

// P10.1, P10.2: money of players who won something, who won nothing, and of none.
func TestMoney(t *testing.T) {
	n := after(t, "strip a 1", "sell a 1 ann", "sell a 2 bob", "prize 1 100")
	expectSame(t, "answers", []string{n.Do("money ann"), n.Do("money bob"), n.Do("money eve")}, []string{"money 0", "money 0", "money 0"})
	do(t, n, calling(rowsOf(1, 1)[0])...)
	do(t, n, "claim a 1 1", "close")
	expectSame(t, "answers", []string{n.Do("money ann"), n.Do("money bob"), n.Do("money eve")}, []string{"money 100", "money 0", "money 0"})
	expectSame(t, "Won", []int64{n.Won("ann"), n.Won("bob"), n.Won("eve"), n.Won("Ann"), n.Won(""), n.Won(" ann"), n.Won("\xff"), n.Won("ann\n")}, []int64{100, 0, 0, 0, 0, 0, 0, 0})
}

// P10.1: the words of numbers, and reading them, with all digits from 0 to 30.
func TestSerial(t *testing.T) {
	n := hall.New()
	list := []int{0, 1, 2, 30, 31, 32, 960, 961, 29790, 29791, 923520, 923519, 500000}
	for number := 7; number < 923521; number += 9973 {
		list = append(list, number)
	}
	for _, number := range list {
		word := numbered("", wordOf(number)...)
		play(t, n, "serial "+strconv.Itoa(number), "serial"+word, "read"+word, "read "+strconv.Itoa(number))
	}
	play(t, n, "serial 0", "serial 0 0 0 0 0 0 0 0", "serial 31", "serial 1 2 3 4 5 6 7 8", "serial 961", "serial 1 4 9 16 25 5 18 2", "serial 29791", "serial 1 8 27 2 1 30 2 16")
	expectRefused(t, n, "error 1", "serial 923521", "serial 923522", "serial 1000000", "serial 4294967296", "serial 1000000000000")
}

// P10.1: words with no, one, two, three and four wrong places.
func TestRead(t *testing.T) {
	r := newRandom()
	n := hall.New()
	answers := map[bool]int{}
	for i := range 125 {
		number, wrong := r.IntN(923521), i%5
		word := wordOf(number)
		for _, place := range r.Perm(8)[:wrong] {
			word[place] = (word[place] + 1 + r.IntN(30)) % 31
		}
		line := "read" + numbered("", word...)
		var o oracle
		want := o.answer(line)
		if wrong <= 2 {
			expectSame(t, line, want, "read "+strconv.Itoa(number))
		}
		play(t, n, line, want)
		answers[want == "error 30"]++
	}
	if answers[true] < 10 || answers[false] < 75 {
		t.Errorf("answers: %v", answers)
	}
}

// P10.1: numbers that are no elements of the field, in each place; words that are too short and too long.
func TestReadRefused(t *testing.T) {
	n := hall.New()
	for place := range 8 {
		word := []string{"1", "1", "1", "1", "1", "1", "1", "1"}
		for _, x := range []string{"31", "32", "62", "4294967297", "1000000000000"} {
			word[place] = x
			expectRefused(t, n, "error 1", "read "+strings.Join(word, " "))
		}
		word[place] = "30"
		play(t, n, "read "+strings.Join(word, " "), "read 1")
	}
	expectRefused(t, n, "error 100", "read", "read 1", ones("read", 7), ones("read", 9), ones("read", 16), ones("read", 7)+" a", ones("read", 7)+" 01", ones("read", 9)+" 99")
	expectRefused(t, n, "error 1", "read 31 31 31 31 31 31 31 31")
	expectRefused(t, n, "error 30", "read 1 1 1 5 5 1 6 1")
}

// P10.1: each verdict, and numbers at the ends of their ranges.
func TestJudge(t *testing.T) {
	n := hall.New()
	play(t, n, "judge 7 3 1", "judge 0", "judge 111 11 1", "judge 0", "judge 8 3 1", "judge 1", "judge 22 7 2", "judge 3", "judge 43 7 1", "judge 4 2", "judge 16 6 1", "judge 2", "judge 67 22 7", "judge 4 3", "judge 331 121 44", "judge 4 7", "judge 3 2 1", "judge 0", "judge 10000 2 1", "judge 0", "judge 10000 2 10000", "judge 0", "judge 4 2 10000", "judge 0")
	expectRefused(t, n, "error 1", "judge 0 0 0", "judge 0 2 1", "judge 2 2 1", "judge 7 0 1", "judge 7 1 1", "judge 7 7 1", "judge 7 8 1", "judge 7 3 0", "judge 7 3 10001", "judge 10001 3 1", "judge 10001 2 1", "judge 1000000000000 3 1", "judge 7 1000000000000 1", "judge 7 3 1000000000000", "judge 4294967303 3 1", "judge 7 4294967299 1", "judge 7 3 4294967297")
	var o oracle
	codes := map[string]int{}
	for v := 2; v < 60; v++ {
		for k := 1; k <= v; k++ {
			for l := range 8 {
				line := numbered("judge", v, k, l)
				want := o.answer(line)
				play(t, n, line, want)
				codes[strings.Join(strings.Split(want, " ")[:2], " ")]++
			}
		}
	}
	expectSame(t, "different answers", len(codes), 6)
}

// P10.1: guilty names halls once, rising, in an open draw.
func TestGuilty(t *testing.T) {
	n := hall.New()
	expectRefused(t, n, "error 5", "guilty")
	do(t, n, "open 11 4 1")
	play(t, n, "guilty", "guilty")
	do(t, n, "deal 4 5 5", "deal 4 8 18", "deal 2 4 4", "deal 2 4 8", "deal 3 16 12", "deal 1 8 18")
	play(t, n, "guilty", "guilty 2 4")
	do(t, n, "complain 1 2", "complain 3 2", "complain 1 3", "answer 3 1 0", "answer 3 1 7", "reveal 2 9 9", "reveal 2 9 8", "share 2 1 0")
	play(t, n, "guilty", "guilty 2 3 4", "ball", "error 4", "guilty", "guilty 2 3 4")
	do(t, n, "share 1 1 3", "share 1 2 3", "share 2 1 3")
	play(t, n, "guilty", "guilty 2 3 4", "reveal 1 0 0", "ok", "guilty", "guilty 1 2 3 4", "reveal 1 7 3", "ok", "ball", "ok 8", "guilty", "error 5")
	do(t, n, "open 11 3 1")
	play(t, n, "guilty", "guilty")
}

// P10.1: questions have no effect, and are not in the book; at the beginning, in the middle and after close.
func TestQuestions(t *testing.T) {
	nights := []*hall.Night{hall.New(), usable(t), after(t, "strip a 1", "call 1"), after(t, "strip a 1", "call 1", "close")}
	for _, n := range nights {
		before := stateOf(n)
		for _, question := range allQuestions() {
			n.Do(question)
		}
		expectSame(t, "state", stateOf(n), before)
	}
}
