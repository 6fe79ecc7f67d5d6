package hall_test

import (
	"strings"
	"testing"

	"dauber/hall"
)

// P10.2: the sums of a new night.
func TestNew(t *testing.T) {
	n := hall.New()
	expectSame(t, "Book", n.Book(), "")
	expectSame(t, "Calls", len(n.Calls()), 0)
	expectSame(t, "sums", []int64{n.Won("ann"), n.Won(""), n.Paid(), n.Put()}, []int64{0, 0, 0, 0})
	do(t, hall.New(), "strip a 1")
	play(t, n, "left a 1", "error 4")
}

// P10.3: a nil night.
func TestNil(t *testing.T) {
	var n *hall.Night
	for _, line := range append(sampleLines(), "", "#", "no line", "\n", strings.Repeat("x", 513), "call 01") {
		expectSame(t, line, n.Do(line), "error 3")
	}
	expectSame(t, "Book", n.Book(), "")
	expectSame(t, "Calls", len(n.Calls()), 0)
	expectSame(t, "sums", []int64{n.Won("ann"), n.Won(""), n.Paid(), n.Put()}, []int64{0, 0, 0, 0})
	if n.Fork() != nil {
		t.Error("the fork of nil is a night")
	}
}

// P10.2, R4: whoever changes the list of calls does not change the night.
func TestCallsAreNew(t *testing.T) {
	n := hall.New()
	for range 40 {
		list := n.Calls()
		next := drawnFrom(n)
		do(t, n, calling([]int{next})...)
		if cap(list) > len(list) {
			expectSame(t, "beyond the length", list[:len(list)+1][len(list)] == next, false)
		}
		want := append(append([]int{}, list...), next)
		again := n.Calls()
		fill(again)
		fill(list)
		fill(n.Fork().Calls())
		expectSame(t, "Calls", n.Calls(), want)
		expectSame(t, "calls", n.Do("calls"), numbered("calls", want...))
	}
}

func fill(list []int) {
	list = list[:cap(list)]
	for i := range list {
		list[i] = -9
	}
}

// P10.2: amounts that were put up and paid, the greatest ones.
func TestGreatAmounts(t *testing.T) {
	n := after(t, "strip a 1", "sell a 1 ann")
	for range 20 {
		n.Do("prize 1 1000000000000")
	}
	do(t, n, calling(rowsOf(1, 1)[1])...)
	for i := range 20 {
		expectSame(t, "Paid", n.Paid(), int64(0))
		do(t, n, numbered("claim a 1", i+1))
	}
	do(t, n, "close")
	expectSame(t, "sums", []int64{n.Won("ann"), n.Paid(), n.Put()}, []int64{20_000_000_000_000, 20_000_000_000_000, 20_000_000_000_000})
	play(t, n, "money ann", "money 20000000000000")
}

// P10.2: forks of a night at all its moments go other ways than it, and than each other.
func TestFork(t *testing.T) {
	rows := rowsOf(1, 1)
	n := hall.New()
	for _, x := range []struct{ next, other []string }{
		{[]string{"strip a 1", "strip b 1"}, []string{"strip a 2", "close"}},
		{[]string{"sell a 1 ann", "sell b 1 bob", "sell b 2 bob"}, []string{"sell a 1 bob", "sell a 6 eve", "strip c 1"}},
		{[]string{"prize 1 10", "prize 2 20"}, []string{"prize 3 5", "prize 3 6", "prize 3 7"}},
		{calling(rows[0]), calling(rows[1])},
		{[]string{"claim a 1 1"}, []string{"claim b 1 1", "claim a 1 1", "close"}},
		{[]string{"claim b 1 1"}, []string{"call 90"}},
		{[]string{"open 11 3 1", "deal 1 8 18", "deal 2 4 4"}, []string{"open 5 2 0", "deal 1 1", "deal 2 1"}},
		{[]string{"deal 3 16 12"}, []string{"deal 3 4 4", "complain 1 2", "answer 2 1 2"}},
		{[]string{"complain 1 2"}, []string{"complain 2 1", "complain 3 1", "reveal 1 1 1"}},
		{[]string{"answer 2 1 2"}, []string{"answer 2 1 3", "share 1 2 2"}},
		{[]string{"reveal 1 7 3", "share 1 2 2"}, []string{"reveal 1 7 4", "share 2 1 3"}},
		{[]string{"reveal 3 2 5", "reveal 2 1 1"}, []string{"share 2 3 1", "share 3 2 4"}},
		{[]string{"ball"}, []string{"reveal 2 1 1", "ball", "open 3 2 1", "deal 1 1 1"}},
		{calling(rows[1]), []string{"close"}},
		{[]string{"claim a 1 2", "close"}, []string{"claim b 1 2", "claim a 1 2", "close"}},
	} {
		before := stateOf(n)
		fork, another := n.Fork(), n.Fork()
		expectSame(t, "the fork", stateOf(fork), before)
		for _, line := range x.other {
			fork.Do(line)
		}
		expectSame(t, "the night after the fork went on", stateOf(n), before)
		went := stateOf(fork)
		for _, line := range x.next {
			n.Do(line)
		}
		expectSame(t, "the fork after the night went on", stateOf(fork), went)
		expectSame(t, "another fork", stateOf(another), before)
		for _, line := range x.next {
			another.Do(line)
		}
		expectSame(t, "another fork that goes the same way", stateOf(another), stateOf(n))
	}
	expectSame(t, "money", []int64{n.Won("ann"), n.Won("bob"), n.Paid(), n.Put()}, []int64{25, 5, 30, 30})
}

// P10.2: two forks of one night add claims for the same prize.
func TestForksDoNotShareClaims(t *testing.T) {
	strips := []string{"a", "b", "c", "d", "e", "f", "g", "h"}
	base := hall.New()
	for _, s := range strips {
		do(t, base, "strip "+s+" 1", "sell "+s+" 1 p"+s)
	}
	do(t, base, "prize 1 10")
	do(t, base, calling(rowsOf(1, 1)[0])...)
	for count := range len(strips) - 1 {
		one, two := base.Fork(), base.Fork()
		last, other := strips[count], strips[count+1]
		do(t, one, "claim "+last+" 1 1")
		do(t, two, "claim "+other+" 1 1")
		do(t, base, "claim "+last+" 1 1")
		do(t, one, "close")
		do(t, two, "close")
		part := int64(10 / (count + 1))
		expectSame(t, "money", []int64{one.Won("p" + last), one.Won("p" + other), two.Won("p" + last), two.Won("p" + other)}, []int64{part, 0, 0, part})
	}
}

// P10.2: two forks of one night add lines to the same lists.
func TestForksDoNotShare(t *testing.T) {
	base := after(t, "strip a 1", "strip b 1", "sell a 1 ann", "sell b 1 bob")
	for range 5 {
		do(t, base, "prize 1 10")
	}
	for size := range 20 {
		one, two := base.Fork(), base.Fork()
		do(t, one, "prize 2 1", "strip c 1")
		do(t, two, "prize 3 2", "strip d 1")
		for i, n := range []*hall.Night{one, two} {
			do(t, n, calling(rowsOf(1, 1)[i])...)
			do(t, n, "claim a 1 1", "open 11 3 1")
			for range size {
				do(t, n, "deal 1 8 18", "complain 1 2", "answer 1 2 2", "reveal 1 7 3")
			}
		}
		three, four := one.Fork(), one.Fork()
		do(t, one, "claim b 1 1", "deal 2 4 4", "complain 2 1", "answer 2 1 2", "reveal 2 1 1")
		do(t, three, "claim b 1 2", "deal 3 4 4", "complain 3 1", "answer 3 1 2", "reveal 2 1 2")
		do(t, four, "deal 2 5 4", "complain 2 3", "answer 2 3 2", "share 2 1 3")
		for _, n := range []*hall.Night{one, two, three, four} {
			again := hall.New()
			do(t, again, strings.Split(strings.TrimSuffix(n.Book(), "\n"), "\n")...)
			expectSame(t, "the book done again", stateOf(again), stateOf(n))
			do(t, n, "deal 2 4 4", "reveal 1 7 3", "reveal 2 1 1", "share 1 3 1", "share 2 3 1")
			do(t, again, "deal 2 4 4", "reveal 1 7 3", "reveal 2 1 1", "share 1 3 1", "share 2 3 1")
			expectSame(t, "the book done again, and more", stateOf(again), stateOf(n))
			expectSame(t, "the ball", again.Do("ball"), n.Do("ball"))
			expectSame(t, "the book done again, and the ball", stateOf(again), stateOf(n))
		}
	}
}
