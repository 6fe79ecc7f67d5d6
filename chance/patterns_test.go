package chance_test

import (
	"fmt"
	"math"
	"math/big"
	"math/rand/v2"
	"slices"
	"testing"

	"dauber/api"
	"dauber/chance"
	"dauber/tally"
)

// repeated returns the numbers again and again, length of them.
func repeated(length int, numbers ...int) []int {
	list := make([]int, length)
	for i := range list {
		list[i] = numbers[i%len(numbers)]
	}
	return list
}

// somePattern returns a pattern of the length, which often overlaps itself.
func somePattern(r *rand.Rand, m, length int) []int {
	part := make([]int, 1+r.IntN(length))
	for i := range part {
		part[i] = r.IntN(min(m, 3))
	}
	list := repeated(length, part...)
	if r.IntN(2) == 0 {
		list[r.IntN(length)] = r.IntN(m)
	}
	return list
}

func apart(patterns [][]int) bool {
	for i, a := range patterns {
		for j, b := range patterns {
			if i != j && within(a, b) {
				return false
			}
		}
	}
	return true
}

// someRace returns patterns with lengths up to most, none of which occurs within another one.
func someRace(r *rand.Rand, m, k, most int) [][]int {
	for {
		patterns := make([][]int, k)
		for i := range patterns {
			patterns[i] = somePattern(r, m, 1+r.IntN(most))
		}
		if apart(patterns) {
			return patterns
		}
	}
}

func expectInt(t *testing.T, what string, got tally.Int, e api.Errno, want *big.Int) {
	t.Helper()
	if e != api.OK || got.String() != want.String() {
		t.Errorf("%s: %v, %d; want %v", what, got, e, want)
	}
}

// P7.4: waits for all short patterns, against the chain of the last numbers.
func TestWaits(t *testing.T) {
	for m := 2; m <= 4; m++ {
		for length := 1; m+length <= 6; length++ {
			for n := range int(math.Pow(float64(m), float64(length))) {
				var a []int
				for range length {
					a, n = append(a, n%m), n/m
				}
				_, draws := raced(m, a)
				got, e := chance.Wait(m, a)
				expectInt(t, fmt.Sprint("Wait of ", a, ", m = ", m), got, e, draws.Num())
			}
		}
	}
}

// P7.4: known waits and leads, also such as are no int64.
func TestKnownWaits(t *testing.T) {
	for _, x := range []struct {
		m    int
		a    []int
		want string
	}{
		{2, []int{1}, "2"},
		{2, []int{1, 1}, "6"},
		{2, []int{1, 0}, "4"},
		{2, []int{1, 0, 1}, "10"},
		{90, []int{89}, "90"},
		{90, []int{7, 7, 7}, "737190"},
		{90, []int{7, 8, 7}, "729090"},
		{2, repeated(10, 0), "2046"},
		{2, append(repeated(9, 0), 1), "1024"},
		{2, repeated(10, 0, 1), "1364"},
		{90, repeated(10, 89), "35259617538202247190"},
		{90, []int{0, 1, 2, 3, 4, 5, 6, 7, 8, 9}, "34867844010000000000"},
	} {
		got, e := chance.Wait(x.m, x.a)
		want, _ := new(big.Int).SetString(x.want, 10)
		expectInt(t, fmt.Sprint("Wait of ", x.a), got, e, want)
	}
	for _, x := range []struct {
		m    int
		a, b []int
		want int64
	}{
		{2, []int{1, 0}, []int{0, 1}, 2},
		{2, []int{0, 1}, []int{1, 0}, 2},
		{2, []int{1, 0}, []int{1, 1}, 0},
		{2, []int{1, 1}, []int{1, 0}, 2},
		{3, []int{0, 1, 2}, []int{1, 2}, 9},
		{3, []int{1, 2}, []int{0, 1, 2}, 0},
		{3, []int{1, 2}, []int{1, 2, 0}, 9},
		{3, []int{1, 2, 0}, []int{1, 2}, 0},
		{3, []int{2}, []int{2, 2, 2}, 3},
		{3, []int{2, 2, 2}, []int{2}, 3},
		{3, []int{2, 2, 2}, []int{2, 2, 2, 2}, 39},
		{90, []int{5}, []int{5}, 90},
		{90, []int{5}, []int{6}, 0},
	} {
		got, e := chance.Lead(x.m, x.a, x.b)
		expectInt(t, fmt.Sprint("Lead of ", x.a, " over ", x.b), got, e, big.NewInt(x.want))
	}
}

// P7.4: leads of all kinds of patterns, also of such that occur within one another.
func TestLeads(t *testing.T) {
	r := newRandom()
	for range 3000 {
		m := 2 + r.IntN(89)
		a, b := somePattern(r, m, 1+r.IntN(10)), somePattern(r, m, 1+r.IntN(10))
		got, e := chance.Lead(m, a, b)
		expectInt(t, fmt.Sprint("Lead of ", a, " over ", b, ", m = ", m), got, e, leadOf(m, a, b))
	}
}

// P7.4: races of short patterns, against the chain of the last numbers.
func TestRaces(t *testing.T) {
	r := newRandom()
	for range 150 {
		m := 2 + r.IntN(2)
		patterns := someRace(r, m, 1+r.IntN(4), 6-m)
		want, _ := raced(m, patterns...)
		got, e := chance.Race(m, patterns)
		expectRats(t, fmt.Sprint("Race of ", patterns, ", m = ", m), got, e, want)
		if len(patterns) == 2 {
			first, e := chance.Before(m, patterns[0], patterns[1])
			expectRat(t, fmt.Sprint("Before of ", patterns, ", m = ", m), first, e, want[0])
		}
	}
	for _, patterns := range [][][]int{{{3}, {50}}, {{89}, {0}, {7}}, {{5}, {6, 7}}, {{6, 7}, {7, 6}, {5, 5}}} {
		m := 90
		want := make([]*big.Rat, len(patterns))
		for i := range patterns {
			want[i] = fraction(1, int64(len(patterns)))
		}
		if len(patterns[0]) != len(patterns[1]) || len(patterns[0]) == 2 {
			m = 8
			want, _ = raced(m, patterns...)
		}
		got, e := chance.Race(m, patterns)
		expectRats(t, fmt.Sprint("Race of ", patterns, ", m = ", m), got, e, want)
	}
}

// P7.4: known chances, among them those of the chapter.
func TestKnownRaces(t *testing.T) {
	for _, x := range []struct {
		m    int
		a, b []int
		want *big.Rat
	}{
		{2, []int{1, 0}, []int{1, 1}, fraction(1, 2)},
		{2, []int{0, 1, 1}, []int{1, 1, 0}, fraction(3, 4)},
		{2, []int{1, 1, 0}, []int{0, 1, 1}, fraction(1, 4)},
		{2, []int{1, 1, 1}, []int{0, 1, 1}, fraction(1, 8)},
		{2, []int{0, 0, 1, 0}, []int{1, 0, 0}, fraction(1, 8)},
		{2, []int{0, 1, 0, 1}, []int{1, 0, 1, 1}, fraction(9, 14)},
		{2, []int{0}, []int{1}, fraction(1, 2)},
		{90, []int{0}, []int{89}, fraction(1, 2)},
		{2, []int{0}, repeated(10, 1), fraction(1023, 1024)},
	} {
		got, e := chance.Before(x.m, x.a, x.b)
		expectRat(t, fmt.Sprint("Before of ", x.a, " and ", x.b), got, e, x.want)
	}
	for _, m := range []int{2, 90} {
		for length := 1; length <= 10; length++ {
			got, e := chance.Race(m, [][]int{repeated(length, 1, 1, 0)})
			expectRats(t, "Race of one pattern", got, e, []*big.Rat{fraction(1, 1)})
		}
	}
	got, e := chance.Race(2, [][]int{{0, 0}, {0, 1}, {1, 0}, {1, 1}})
	quarter := fraction(1, 4)
	expectRats(t, "Race of all pairs", got, e, []*big.Rat{quarter, quarter, quarter, quarter})
}

// P7.4: patterns of which one occurs within the other one: at its beginning, in its middle, at its end, or all of it.
func TestPatternsWithin(t *testing.T) {
	long := []int{4, 0, 1, 2, 0, 1, 3, 3, 2, 4}
	other := []int{2, 2}
	for from := range long {
		for to := from + 1; to <= len(long); to++ {
			part := long[from:to]
			what := fmt.Sprint(part, " within ", long)
			first, e := chance.Before(5, long, part)
			expectError(t, "Before, "+what, e, api.ErrPattern, first)
			first, e = chance.Before(5, part, long)
			expectError(t, "Before, "+what, e, api.ErrPattern, first)
			for _, patterns := range [][][]int{{long, part}, {part, long}, {other, long, part}, {part, other, long}, {long, other, repeated(10, 4), part}} {
				list, e := chance.Race(5, patterns)
				expectError(t, "Race, "+what, e, api.ErrPattern, list)
			}
		}
	}
	// Parts that are not together do not occur.
	for _, pair := range [][2][]int{{long, {4, 1}}, {long, {0, 1, 0}}, {long, {2, 4, 4}}, {{0, 1, 1}, {1, 0}}, {{0}, {1, 1, 1}}} {
		if _, e := chance.Before(5, pair[0], pair[1]); e != api.OK {
			t.Errorf("Before of %v: %d", pair, e)
		}
	}
}

// P7.4: what is no pattern and how many numbers there may be, and which error comes first.
func TestPatternErrors(t *testing.T) {
	good := []int{0, 1}
	bad := map[string][]int{
		"no numbers":                   nil,
		"an empty list":                {},
		"11 numbers":                   repeated(11, 0, 1),
		"many numbers":                 make([]int, 1<<20),
		"-1":                           {-1},
		"-1 in the middle":             {0, -1, 1},
		"m":                            {7},
		"m at the end":                 {0, 1, 2, 7},
		"the least number":             {math.MinInt},
		"the greatest number":          {1, math.MaxInt},
		"a number that is 0 as a byte": {256},
	}
	expectAll := func(what string, m int, a []int, want api.Errno) {
		t.Helper()
		wait, e := chance.Wait(m, a)
		expectError(t, "Wait, "+what, e, want, wait)
		for _, pair := range [][2][]int{{a, good}, {good, a}, {a, a}} {
			lead, e := chance.Lead(m, pair[0], pair[1])
			expectError(t, "Lead, "+what, e, want, lead)
			first, e := chance.Before(m, pair[0], pair[1])
			expectError(t, "Before, "+what, e, want, first)
		}
		for _, patterns := range [][][]int{{a}, {a, good}, {good, a}, {good, {1, 1}, a}, {a, a}, {good, good, a}, {a, good, good, good, good}, {good, {1, 1}, {2}, {3}, a}} {
			list, e := chance.Race(m, patterns)
			expectError(t, "Race, "+what, e, want, list)
		}
	}
	for what, a := range bad {
		expectAll(what, 7, a, api.ErrPattern)
		for _, m := range []int{1, 91, 0, -1, math.MinInt, math.MaxInt} {
			expectAll(fmt.Sprint(what, ", m = ", m), m, a, api.ErrArg)
		}
	}
	for _, m := range []int{1, 91, 0, -1, math.MinInt, math.MaxInt} {
		expectAll(fmt.Sprint("m = ", m), m, []int{0, 0}, api.ErrArg)
		list, e := chance.Race(m, nil)
		expectError(t, "Race of no patterns", e, api.ErrArg, list)
	}
	expectAll("2 of m = 2", 2, []int{0, 2}, api.ErrPattern)
	expectAll("90 of m = 90", 90, []int{0, 90}, api.ErrPattern)
	for _, m := range []int{2, 90} {
		for _, a := range [][]int{{m - 1}, repeated(10, m-1), {0}} {
			if wait, e := chance.Wait(m, a); e != api.OK || wait.Sign() <= 0 {
				t.Errorf("Wait of %v, m = %d: %v, %d", a, m, wait, e)
			}
		}
	}
}

// P7.4: races of 0 and of 5 patterns; that one occurs within another one comes later.
func TestRaceErrors(t *testing.T) {
	singles := [][]int{{0}, {1}, {2}, {3}, {4}, {5}}
	for _, x := range []struct {
		what     string
		patterns [][]int
		want     api.Errno
	}{
		{"no patterns", nil, api.ErrArg},
		{"an empty list of patterns", [][]int{}, api.ErrArg},
		{"5 patterns", singles[:5], api.ErrArg},
		{"6 patterns", singles, api.ErrArg},
		{"5 patterns that are the same", [][]int{{0}, {0}, {0}, {0}, {0}}, api.ErrArg},
		{"5 patterns within one another", [][]int{{0}, {1, 0}, {0, 0}, {2, 0}, {0, 1}}, api.ErrArg},
		{"many patterns", slices.Repeat(singles, 100000), api.ErrArg},
		{"5 patterns, one of them empty", append(slices.Clone(singles[:4]), nil), api.ErrPattern},
		{"many empty patterns", make([][]int, 1<<20), api.ErrPattern},
		{"4 patterns that are the same", [][]int{{0}, {0}, {0}, {0}}, api.ErrPattern},
		{"the first and the last the same", [][]int{{0, 1}, {1, 1}, {0, 1}}, api.ErrPattern},
	} {
		list, e := chance.Race(6, x.patterns)
		expectError(t, "Race of "+x.what, e, x.want, list)
	}
	for k := 1; k <= 4; k++ {
		list, e := chance.Race(6, singles[:k])
		want := make([]*big.Rat, k)
		for i := range want {
			want[i] = fraction(1, int64(k))
		}
		expectRats(t, fmt.Sprint("Race of ", k), list, e, want)
	}
}

// P7.4: the largest races: four patterns of ten numbers.
func TestLargeRaces(t *testing.T) {
	r := newRandom()
	for range 60 {
		m := []int{2, 3, 90}[r.IntN(3)]
		var patterns [][]int
		for len(patterns) < 4 {
			patterns = append(patterns, somePattern(r, m, 10))
			if !apart(patterns) {
				patterns = patterns[:len(patterns)-1]
			}
		}
		expectFair(t, m, patterns)
	}
}

// expectFair checks the chances of a race by Conway's equations: if each pattern has a player who bets on it before every draw, the one whose pattern is b has, when a has come, the lead of a over b. As the bets are fair, that is on the average the same for all b, namely how long the race took.
func expectFair(t *testing.T, m int, patterns [][]int) {
	t.Helper()
	chances, e := chance.Race(m, patterns)
	if e != api.OK || len(chances) != len(patterns) {
		t.Fatalf("Race of %v, m = %d: %v, %d", patterns, m, chances, e)
	}
	list := toBigs(chances)
	total := new(big.Rat)
	var draws *big.Rat
	for j, b := range patterns {
		total = sumOf(total, list[j])
		average := new(big.Rat)
		for i, a := range patterns {
			average = sumOf(average, productOf(list[i], new(big.Rat).SetInt(leadOf(m, a, b))))
		}
		if draws == nil {
			draws = average
		}
		if draws.Cmp(average) != 0 || list[j].Sign() <= 0 {
			t.Errorf("Race of %v, m = %d: %v is not fair", patterns, m, chances)
		}
	}
	if total.Cmp(fraction(1, 1)) != 0 {
		t.Errorf("Race of %v, m = %d: the chances %v add up to %v", patterns, m, chances, total)
	}
}
