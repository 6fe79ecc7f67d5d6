package chance_test

import (
	"fmt"
	"math"
	"math/big"
	"math/rand/v2"
	"slices"
	"testing"

	"dauber/api"
	"dauber/chance"
	"dauber/tally"
)

// someCards returns cards with numbers of a list.
func someCards(r *rand.Rand, numbers []int, k int) [][]int {
	cards := make([][]int, k)
	for i := range cards {
		size := 1 + r.IntN(min(len(numbers), 1+r.IntN(len(numbers))))
		for _, at := range r.Perm(len(numbers))[:size] {
			cards[i] = append(cards[i], numbers[at])
		}
		if i > 0 && r.IntN(6) == 0 {
			cards[i] = slices.Clone(cards[r.IntN(i)])
			slices.Reverse(cards[i])
		}
	}
	return cards
}

// from returns the n numbers from first on.
func from(first, n int) []int {
	list := make([]int, n)
	for i := range list {
		list[i] = first + i
	}
	return list
}

// expectCards compares all calls with the oracle, for up to 16 numbers.
func expectCards(t *testing.T, n int, cards [][]int) {
	t.Helper()
	x, what := newNight(n, cards), fmt.Sprint(cards, " of ", n)
	for calls := range n + 1 {
		full, e := chance.Full(n, cards, calls)
		expectRat(t, fmt.Sprint("Full of ", what, ", calls: ", calls), full, e, x.full(calls))
	}
	calls, e := chance.Calls(n, cards)
	expectRat(t, "Calls of "+what, calls, e, x.calls())
	first, e := chance.First(n, cards)
	expectRats(t, "First of "+what, first, e, x.first())
}

// P7.5: cards of all kinds, against all sets of numbers called.
func TestCards(t *testing.T) {
	r := newRandom()
	for range 250 {
		n := 1 + r.IntN(9)
		expectCards(t, n, someCards(r, from(1, n), 1+r.IntN(6)))
	}
	expectCards(t, 12, someCards(r, from(1, 12), 6))
}

// P7.5: cards that are the same, that lie within one another, and that have no number in common.
func TestKnownCards(t *testing.T) {
	for _, x := range []struct {
		n     int
		cards [][]int
		first string
		calls string
	}{
		{3, [][]int{{1}, {2, 3}}, "2/3 1/3", "5/3"},
		{1, [][]int{{1}}, "1", "1"},
		{1, [][]int{{1}, {1}, {1}, {1}, {1}, {1}}, "1 1 1 1 1 1", "1"},
		{90, [][]int{{90}}, "1", "91/2"},
		{90, [][]int{{64}, {64}}, "1 1", "91/2"},
		{90, [][]int{from(1, 90)}, "1", "90"},
		{90, [][]int{from(1, 90), from(1, 90)}, "1 1", "90"},
		{90, [][]int{from(1, 90), from(1, 89)}, "89/90 1", "8099/90"},
		{4, [][]int{{1, 2}, {2, 3}}, "2/3 2/3", "35/12"},
		{4, [][]int{{1, 2}, {3, 4}}, "1/2 1/2", "8/3"},
		{4, [][]int{{1, 2}, {2, 1}}, "1 1", "10/3"},
		{5, [][]int{{1}, {1, 2}}, "1 1/2", "3"},
		{5, [][]int{{1, 2, 3}, {1, 2}, {1}}, "1/3 1/2 1", "3"},
		{6, [][]int{{1}, {2}, {3}, {4}, {5}, {6}}, "1/6 1/6 1/6 1/6 1/6 1/6", "1"},
		{90, [][]int{{1}, {2}, {3}, {4}, {5}, {6}}, "1/6 1/6 1/6 1/6 1/6 1/6", "13"},
		{90, [][]int{{63}, {64}}, "1/2 1/2", "91/3"},
		{90, [][]int{{1}, {65}}, "1/2 1/2", "91/3"},
		{90, [][]int{{1, 2, 3, 4, 5}}, "1", "455/6"},
	} {
		what := fmt.Sprint(x.cards, " of ", x.n)
		first, e := chance.First(x.n, x.cards)
		expectRats(t, "First of "+what, first, e, toBigs(rats(x.first)))
		calls, e := chance.Calls(x.n, x.cards)
		expectRat(t, "Calls of "+what, calls, e, toBig(rat(x.calls)))
	}
}

// classes tells how many numbers are on the same cards: for each set of cards, one with the bit i for the card i.
type classes struct {
	n     int
	sizes map[uint]int
	cards int
}

func newClasses(n int, cards [][]int) classes {
	x := classes{n: n, sizes: map[uint]int{}, cards: len(cards)}
	for number := 1; number <= n; number++ {
		var on uint
		for i, card := range cards {
			if slices.Contains(card, number) {
				on |= 1 << i
			}
		}
		x.sizes[on]++
	}
	return x
}

// fullCards returns the cards of which all numbers are called, if so many of each class are.
func (x classes) fullCards(called map[uint]int) uint {
	all := uint(1)<<x.cards - 1
	for on, size := range x.sizes {
		if called[on] < size {
			all &^= on
		}
	}
	return all
}

// selections calls visit for all numbers called of each class of numbers on cards, with how many sets of numbers that are.
func (x classes) selections(visit func(called map[uint]int, sets *big.Int)) {
	var list []uint
	for on := range x.sizes {
		if on != 0 {
			list = append(list, on)
		}
	}
	called := map[uint]int{}
	var choose func(at int, sets *big.Int)
	choose = func(at int, sets *big.Int) {
		if at == len(list) {
			visit(called, sets)
			return
		}
		for k := range x.sizes[list[at]] + 1 {
			called[list[at]] = k
			choose(at+1, new(big.Int).Mul(sets, binomial(x.sizes[list[at]], k)))
		}
	}
	choose(0, big.NewInt(1))
}

func binomial(n, k int) *big.Int {
	if k < 0 || k > n {
		return new(big.Int)
	}
	return new(big.Int).Binomial(int64(n), int64(k))
}

func total(called map[uint]int) int {
	sum := 0
	for _, k := range called {
		sum += k
	}
	return sum
}

// full returns the chances that some card is full after 0 to n calls.
func (x classes) full() []*big.Rat {
	sets := make([]*big.Int, x.n+1)
	for calls := range sets {
		sets[calls] = new(big.Int)
	}
	x.selections(func(called map[uint]int, s *big.Int) {
		if x.fullCards(called) == 0 {
			return
		}
		k := total(called)
		for others := range x.sizes[0] + 1 {
			sets[k+others].Add(sets[k+others], new(big.Int).Mul(s, binomial(x.sizes[0], others)))
		}
	})
	chances := make([]*big.Rat, x.n+1)
	for calls := range chances {
		chances[calls] = quotient(sets[calls], binomial(x.n, calls))
	}
	return chances
}

// first leaves out the numbers that are on no card.
func (x classes) first() []*big.Rat {
	chances := make([]*big.Rat, x.cards)
	for i := range chances {
		chances[i] = new(big.Rat)
	}
	numbers := x.n - x.sizes[0]
	x.selections(func(called map[uint]int, sets *big.Int) {
		if x.fullCards(called) != 0 {
			return
		}
		k := total(called)
		for on, size := range x.sizes {
			if on == 0 || called[on] == size {
				continue
			}
			chance := quotient(new(big.Int).Mul(sets, big.NewInt(int64(size-called[on]))), new(big.Int).Mul(binomial(numbers, k), big.NewInt(int64(numbers-k))))
			called[on]++
			for i := range chances {
				if x.fullCards(called)>>i&1 == 1 {
					chances[i] = sumOf(chances[i], chance)
				}
			}
			called[on]--
		}
	})
	return chances
}

// expectManyCards compares all calls with an oracle that counts by classes.
func expectManyCards(t *testing.T, n int, cards [][]int) {
	t.Helper()
	x, what := newClasses(n, cards), fmt.Sprint(cards, " of ", n)
	chances, average := x.full(), new(big.Rat)
	for calls, want := range chances {
		full, e := chance.Full(n, cards, calls)
		expectRat(t, fmt.Sprint("Full of ", what, ", calls: ", calls), full, e, want)
		average = sumOf(average, new(big.Rat).Sub(fraction(1, 1), want))
	}
	calls, e := chance.Calls(n, cards)
	expectRat(t, "Calls of "+what, calls, e, average)
	first, e := chance.First(n, cards)
	expectRats(t, "First of "+what, first, e, x.first())
}

// P7.5: up to 90 numbers, and cards with many of them.
func TestManyNumbers(t *testing.T) {
	r := newRandom()
	for _, n := range []int{90, 90, 90, 89, 65, 64, 63, 40} {
		numbers := r.Perm(n)[:8]
		for i := range numbers {
			numbers[i]++
		}
		expectManyCards(t, n, someCards(r, numbers, 1+r.IntN(6)))
	}
	for _, cards := range [][][]int{
		{from(1, 90)},
		{from(1, 45), from(46, 45)},
		{from(1, 30), from(31, 15), from(60, 20)},
		{from(1, 40), from(21, 40)},
		{from(1, 20), from(50, 41), from(10, 20)},
		{from(1, 90), from(2, 89), from(3, 88)},
		{{1, 2, 3}, {88, 89, 90}, {62, 63, 64, 65}, {64}, {90, 1}, {65, 66}},
	} {
		expectManyCards(t, 90, cards)
	}
}

// P7.5: calls of 0 and of n.
func TestNoAndAllCalls(t *testing.T) {
	for _, n := range []int{1, 2, 64, 90} {
		cards := [][]int{{n}, from(1, n)}
		full, e := chance.Full(n, cards[1:], 0)
		expectRat(t, "Full after no calls", full, e, new(big.Rat))
		full, e = chance.Full(n, cards[1:], n-1)
		expectRat(t, "Full of all numbers after all calls but one", full, e, new(big.Rat))
		full, e = chance.Full(n, cards[1:], n)
		expectRat(t, "Full after all calls", full, e, fraction(1, 1))
		for calls := range n + 1 {
			full, e = chance.Full(n, cards, calls)
			expectRat(t, "Full of one number", full, e, fraction(int64(calls), int64(n)))
		}
	}
	full, e := chance.Full(90, [][]int{{1}, {1}}, 45)
	expectRat(t, "Full of the same card twice", full, e, fraction(1, 2))
}

// everyCard makes the calls that take cards, and expects the same error of each of them.
func everyCard(t *testing.T, what string, n int, cards [][]int, want api.Errno) {
	t.Helper()
	var full, calls tally.Rat
	for _, k := range []int{-1, 0, 1, n, n + 1, math.MinInt, math.MaxInt} {
		var e api.Errno
		full, e = chance.Full(n, cards, k)
		expectError(t, "Full of "+what, e, want, full)
	}
	calls, e := chance.Calls(n, cards)
	expectError(t, "Calls of "+what, e, want, calls)
	first, e := chance.First(n, cards)
	expectError(t, "First of "+what, e, want, first)
}

// P7.5: what is no card, how many there may be, and which error comes first.
func TestCardErrors(t *testing.T) {
	good := [][]int{{1}, {1, 2}, {2}, {3, 1}, {3}, {1, 2, 3}}
	with := func(card []int, at int) [][]int {
		cards := slices.Clone(good)
		cards[at] = card
		return cards
	}
	for what, card := range map[string][]int{
		"no numbers":               nil,
		"an empty list":            {},
		"0":                        {0},
		"0 at the end":             {1, 2, 0},
		"n + 1":                    {4},
		"n + 1 in the middle":      {1, 4, 2},
		"one number twice":         {1, 1},
		"one number twice, apart":  {3, 1, 2, 3},
		"-1":                       {-1},
		"the least number":         {math.MinInt},
		"the greatest number":      {math.MaxInt, 1},
		"many numbers":             repeated(1<<20, 1, 2, 3),
		"1 and n + 64":             {1, 67},
		"1 and 65, the same bit":   {1, 65},
		"128, beyond the last bit": {128},
	} {
		for at := range good {
			everyCard(t, what, 3, with(card, at), api.ErrPattern)
		}
		everyCard(t, what+" alone", 3, [][]int{card}, api.ErrPattern)
		everyCard(t, what+", 7 cards", 3, append(with(card, 0), card), api.ErrLong)
		for _, n := range []int{0, 91, -1, math.MinInt, math.MaxInt} {
			everyCard(t, what, n, [][]int{card}, api.ErrArg)
			everyCard(t, what+", 7 cards", n, append(with(card, 0), card), api.ErrArg)
		}
	}
	for _, n := range []int{0, 91, -1, math.MinInt, math.MaxInt} {
		everyCard(t, fmt.Sprint(n, " numbers"), n, good, api.ErrArg)
		everyCard(t, fmt.Sprint(n, " numbers and no cards"), n, nil, api.ErrArg)
	}
	for _, n := range []int{1, 3, 90} {
		everyCard(t, "no cards", n, nil, api.ErrLong)
		everyCard(t, "an empty list of cards", n, [][]int{}, api.ErrLong)
		everyCard(t, "7 cards", n, append(slices.Clone(good), good[0]), api.ErrLong)
		everyCard(t, "many cards", n, make([][]int, 1<<20), api.ErrLong)
	}
	everyCard(t, "91 of 90", 90, [][]int{{90}, {91}}, api.ErrPattern)
	everyCard(t, "91 numbers", 90, [][]int{from(1, 91)}, api.ErrPattern)
	everyCard(t, "91 numbers, the last one twice", 90, [][]int{append(from(1, 90), 90)}, api.ErrPattern)
}

// P7.5: the number of calls.
func TestCallErrors(t *testing.T) {
	for _, n := range []int{1, 2, 89, 90} {
		for _, calls := range []int{-1, n + 1, 91, math.MinInt, math.MaxInt} {
			full, e := chance.Full(n, [][]int{{1}, {n}}, calls)
			expectError(t, fmt.Sprint("Full after ", calls, " calls of ", n), e, api.ErrArg, full)
		}
		for _, calls := range []int{0, n} {
			if _, e := chance.Full(n, [][]int{{1}, {n}}, calls); e != api.OK {
				t.Errorf("Full after %d calls of %d: %d", calls, n, e)
			}
		}
	}
}
