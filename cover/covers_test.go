package cover_test

import (
	"fmt"
	"math"
	"slices"
	"testing"

	"dauber/api"
	"dauber/cover"
)

// expectCovers checks all calls for a problem all of whose covers are known.
func expectCovers(t *testing.T, p cover.Problem, want [][]int) {
	t.Helper()
	what := fmt.Sprint("the problem ", p)
	if e := cover.Check(p); e != api.OK {
		t.Errorf("%s: Check is %d", what, e)
	}
	first, e := cover.First(p)
	if len(want) > 0 {
		expectList(t, what, first, e, want[0])
	} else {
		expectError(t, what, e, api.ErrNone, first)
	}
	for _, most := range []int{1, 2, 3, len(want) - 1, len(want), len(want) + 1, 1000} {
		if most >= 1 && most <= 1000 {
			all, e := cover.All(p, most)
			expectRows(t, what, all, e, want[:min(most, len(want))])
		}
	}
	for _, most := range []int{1, 2, len(want) - 1, len(want), len(want) + 1, 1000000} {
		if most >= 1 {
			expectCount(t, p, most, len(want))
		}
	}
	l, is := cover.Refute(p)
	if is != (len(want) == 0) {
		t.Errorf("%s: Refute is %v", what, is)
	}
	if is && (!refutes(p, l) || !cover.Refutes(p, l)) {
		t.Errorf("%s: %v is no refutation", what, l)
	}
	if !is {
		expectNothing(t, what, l)
	}
}

// expectCount checks Count of a problem with that many covers.
func expectCount(t *testing.T, p cover.Problem, most, want int) {
	t.Helper()
	n, e := cover.Count(p, most)
	if want > most {
		expectError(t, fmt.Sprint("Count of at most ", most), e, api.ErrMore, n)
	} else {
		expectNumber(t, fmt.Sprint("Count of at most ", most), n, e, want)
	}
}

// P5.3, P5.4, P5.7: problems of which the oracle goes through all lists of options; also among 64 items.
func TestSmallProblems(t *testing.T) {
	r := newRandom()
	count := map[int]int{}
	for range 4000 {
		p := someProblem(r)
		covers := coversOf(p)
		count[min(len(covers), 3)]++
		expectCovers(t, p, covers)
		wide := spread(r, p)
		for i := range covers {
			covers[i] = append(covers[i], len(p.Options))
		}
		expectCovers(t, wide, covers)
	}
	for n, many := range count {
		if many < 100 {
			t.Errorf("only %d problems with %d covers", many, n)
		}
	}
}

// P5.3, P5.4: examples, and problems without items or options, with empty options, and with options that occur twice.
func TestProblemsAtLimits(t *testing.T) {
	for _, x := range []struct {
		items   int
		options [][]int
		want    [][]int
	}{
		{3, [][]int{{0, 1}, {1, 2}, {0}, {2}}, [][]int{{0, 3}, {1, 2}}},
		{3, [][]int{{0, 1}, {1, 2}}, nil},
		{0, nil, [][]int{{}}},
		{0, [][]int{{}, {}}, [][]int{{}}},
		{1, nil, nil},
		{1, [][]int{{}}, nil},
		{1, [][]int{{}, {0}, {}}, [][]int{{1}}},
		{1, [][]int{{0}, {0}}, [][]int{{0}, {1}}},
		{2, [][]int{{0}, {1, 0}, {1}, {0, 1}}, [][]int{{0, 2}, {1}, {3}}},
		{2, [][]int{{1}, {1}, {0}, {0}}, [][]int{{0, 2}, {0, 3}, {1, 2}, {1, 3}}},
		{3, [][]int{{2}, {1}, {0}, {0, 1, 2}, {1, 2}}, [][]int{{0, 1, 2}, {2, 4}, {3}}},
		{64, nil, nil},
		{64, [][]int{from(0, 64)}, [][]int{{0}}},
		{64, [][]int{from(0, 63), {63}, from(1, 63), {0}}, [][]int{{0, 1}, {2, 3}}},
		{64, [][]int{from(0, 63), from(1, 63)}, nil},
		{64, [][]int{from(32, 32), {}, from(0, 32), from(0, 33)}, [][]int{{0, 2}}},
	} {
		expectCovers(t, cover.Problem{Items: x.items, Options: x.options}, x.want)
	}
	all := singles(64, 1)
	expectCovers(t, all, [][]int{from(0, 64)})
	expectCovers(t, cover.Problem{Items: 64, Options: all.Options[:63]}, nil)
	expectCovers(t, cover.Problem{Items: 64, Options: all.Options[1:]}, nil)
	full := cover.Problem{Items: 64, Options: slices.Concat(make([][]int, 435), all.Options, [][]int{{0, 63}})}
	expectCovers(t, full, [][]int{from(435, 64), append(from(436, 62), 499)})
}

// checkListed checks that a list of covers is the beginning of all covers in order, as far as it can be seen.
func checkListed(t *testing.T, what string, p cover.Problem, listed [][]int) {
	t.Helper()
	for i, list := range listed {
		if !isCover(p, list) {
			t.Errorf("%s: %v is no cover", what, list)
		}
		if i > 0 && slices.Compare(listed[i-1], list) >= 0 {
			t.Errorf("%s: %v does not come after %v", what, list, listed[i-1])
		}
	}
}

// P5.3, W2: problems whose numbers of covers are known, with the options in any order.
func TestKnownCounts(t *testing.T) {
	r := newRandom()
	for _, x := range []struct {
		what string
		p    cover.Problem
		want int
	}{
		{"dominoes 2 by 3", dominoes(2, 3), 3},
		{"dominoes 2 by 10", dominoes(2, 10), 89},
		{"dominoes 4 by 4", dominoes(4, 4), 36},
		{"dominoes 4 by 5", dominoes(4, 5), 95},
		{"dominoes 6 by 6", dominoes(6, 6), 6728},
		{"dominoes 4 by 16", dominoes(4, 16), 5453761},
		{"dominoes 8 by 8", dominoes(8, 8), 12988816},
		{"triples of 7", triples(7), 30},
		{"triples of 9", triples(9), 840},
		{"langford 3", langford(3), 2},
		{"langford 4", langford(4), 2},
		{"langford 7", langford(7), 52},
		{"langford 8", langford(8), 300},
		{"sudoku", sudoku(), 288},
		{"pairs of 10", pairs(10), 945},
		{"pairs of 16", pairs(16), 2027025},
		{"pairs beside pairs", beside(pairs(8), pairs(8), pairs(4)), 33075},
		{"ten each for six", singles(6, 10), 1000000},
		{"two each for 64", singles(64, 2), math.MaxInt},
		{"seven each for 64", singles(64, 7), math.MaxInt},
	} {
		for _, p := range []cover.Problem{x.p, mixed(r, x.p)} {
			for _, most := range []int{1, x.want - 1, x.want, x.want + 1, 999999, 1000000} {
				if most >= 1 && most <= 1000000 {
					expectCount(t, p, most, x.want)
				}
			}
			all, e := cover.All(p, 1000)
			if e != api.OK || len(all) != min(x.want, 1000) {
				t.Errorf("%s: All has %d covers, %d", x.what, len(all), e)
			}
			checkListed(t, x.what, p, all)
			few, e := cover.All(p, 10)
			expectRows(t, x.what, few, e, all[:min(10, len(all))])
			first, e := cover.First(p)
			expectList(t, x.what, first, e, all[0])
			l, is := cover.Refute(p)
			if is {
				t.Errorf("%s: Refute is %v", x.what, is)
			}
			expectNothing(t, x.what, l)
		}
	}
}

// P5.3, W3: no cover comes earlier than those that All lists, in problems whose options have one item each: their covers are known, one after the other.
func TestOrderOfManyCovers(t *testing.T) {
	for _, x := range []struct{ items, each int }{{64, 7}, {10, 4}, {3, 13}, {1, 500}, {2, 250}, {64, 2}} {
		p := singles(x.items, x.each)
		all, e := cover.All(p, 1000)
		want := [][]int{from(0, x.items)}
		// By the order of lists the options of the last items change first.
		for len(want) < 1000 {
			next := nextChoice(want[len(want)-1], x.items, x.each)
			if next == nil {
				break
			}
			want = append(want, next)
		}
		expectRows(t, fmt.Sprint("All of ", x), all, e, want)
	}
}

// nextChoice returns the next list of options, rising, that has just one of each class modulo items; or nil.
func nextChoice(list []int, items, each int) []int {
	for last := len(list) - 1; last >= 0; last-- {
		for o := list[last] + 1; o < items*each; o++ {
			next := append(slices.Clone(list[:last]), o)
			if completed, is := completeChoice(next, items, each); is {
				return completed
			}
		}
	}
	return nil
}

// completeChoice returns the first list that begins with this one.
func completeChoice(list []int, items, each int) ([]int, bool) {
	has := make([]bool, items)
	for _, o := range list {
		if has[o%items] {
			return nil, false
		}
		has[o%items] = true
	}
	for _, o := range from(list[len(list)-1]+1, items*each-list[len(list)-1]-1) {
		// Without o there must be a later option for its class.
		if !has[o%items] {
			has[o%items] = true
			list = append(list, o)
		}
	}
	return list, len(list) == items
}

// P5.3: the same options, exchanged with one another, in problems that the oracle can go through only by the lowest item.
func TestFirstByOtherWay(t *testing.T) {
	r := newRandom()
	for range 60 {
		p := mixed(r, dominoes(4, 5))
		want := byLowestItem(p)
		all, e := cover.All(p, 1000)
		expectRows(t, "dominoes 4 by 5", all, e, want)
	}
	few, many := 0, 0
	for range 60 {
		p := cover.Problem{Items: 24}
		for range 45 + r.IntN(30) {
			p.Options = append(p.Options, r.Perm(24)[:1+r.IntN(4)])
		}
		want := byLowestItem(p)
		switch {
		case len(want) > 1000:
			many++
		case len(want) > 0:
			few++
		}
		expectCount(t, p, 1000000, len(want))
		all, e := cover.All(p, 1000)
		expectRows(t, "random options", all, e, want[:min(1000, len(want))])
	}
	if few < 5 || many < 5 {
		t.Errorf("of the problems %d have a few covers, %d many", few, many)
	}
}

// byLowestItem returns all covers in order: it tries all options for the lowest item that is not covered, and sorts.
func byLowestItem(p cover.Problem) [][]int {
	var all [][]int
	var extend func(taken []int, covered uint64)
	sets := make([]uint64, len(p.Options))
	for o, option := range p.Options {
		for _, i := range option {
			sets[o] |= 1 << i
		}
	}
	extend = func(taken []int, covered uint64) {
		item := 0
		for item < p.Items && covered>>item&1 == 1 {
			item++
		}
		if item == p.Items {
			all = append(all, slices.Sorted(slices.Values(taken)))
		}
		for o, s := range sets {
			if s>>item&1 == 1 && s&covered == 0 {
				extend(append(taken, o), covered|s)
			}
		}
	}
	extend(nil, 0)
	slices.SortFunc(all, slices.Compare)
	return all
}

// P5.3: problems that are not valid, and bounds that are out of range; the first error that P5.3 names decides.
func TestProblemErrors(t *testing.T) {
	long := make([][]int, 501)
	for _, x := range []struct {
		items   int
		options [][]int
		want    api.Errno
	}{
		{-1, nil, api.ErrArg},
		{65, nil, api.ErrArg},
		{math.MinInt, nil, api.ErrArg},
		{math.MaxInt, nil, api.ErrArg},
		{-1, long, api.ErrArg},
		{65, long, api.ErrArg},
		{0, long, api.ErrLong},
		{64, long, api.ErrLong},
		{1, append([][]int{{1}}, long...), api.ErrLong},
		{1, append(long, []int{0, 0}), api.ErrLong},
		{3, make([][]int, 1<<20), api.ErrLong},
		{0, [][]int{{0}}, api.ErrArg},
		{1, [][]int{{1}}, api.ErrArg},
		{1, [][]int{{-1}}, api.ErrArg},
		{1, [][]int{{0, 0}}, api.ErrArg},
		{3, [][]int{{0, 1, 2, 0}}, api.ErrArg},
		{3, [][]int{{0}, {1}, {2}, {3}}, api.ErrArg},
		{64, [][]int{{64}}, api.ErrArg},
		{64, [][]int{{63, 63}}, api.ErrArg},
		{64, [][]int{{math.MaxInt}}, api.ErrArg},
		{64, [][]int{{math.MinInt}}, api.ErrArg},
		{64, [][]int{from(0, 65)}, api.ErrArg},
		{64, [][]int{make([]int, 1<<20)}, api.ErrArg},
		{64, append(long[:499:499], []int{5, 5}), api.ErrArg},
		{64, long[:500], api.OK},
	} {
		what := fmt.Sprint("the problem ", x.items, " with ", len(x.options), " options")
		p := cover.Problem{Items: x.items, Options: x.options}
		if e := cover.Check(p); e != x.want {
			t.Errorf("%s: Check is %d; want %d", what, e, x.want)
		}
		if x.want == api.OK {
			continue
		}
		first, e := cover.First(p)
		expectError(t, what, e, x.want, first)
		for _, most := range []int{1, 0, -1, 1001, 1000001} {
			all, e := cover.All(p, most)
			expectError(t, what, e, x.want, all)
			n, e := cover.Count(p, most)
			expectError(t, what, e, x.want, n)
		}
		l, is := cover.Refute(p)
		if is || cover.Refutes(p, []cover.Node{{}}) || cover.Refutes(p, nil) {
			t.Errorf("%s: refuted: %v", what, is)
		}
		expectNothing(t, what, l)
	}
}

// P5.3: bounds of covers that are listed or counted.
func TestBounds(t *testing.T) {
	for _, p := range []cover.Problem{{}, {Items: 1}, singles(2, 3), singles(6, 10)} {
		for _, most := range []int{0, -1, 1001, math.MinInt, math.MaxInt} {
			all, e := cover.All(p, most)
			expectError(t, fmt.Sprint("All ", most), e, api.ErrArg, all)
		}
		for _, most := range []int{0, -1, 1000001, math.MinInt, math.MaxInt} {
			n, e := cover.Count(p, most)
			expectError(t, fmt.Sprint("Count ", most), e, api.ErrArg, n)
		}
	}
	all, e := cover.All(singles(6, 10), 1000)
	if e != api.OK || len(all) != 1000 {
		t.Errorf("All of 1000: %d, %d", len(all), e)
	}
	all, e = cover.All(singles(6, 10), 1)
	expectRows(t, "All of 1", all, e, [][]int{from(0, 6)})
	expectCount(t, singles(6, 10), 1000000, 1000000)
	expectCount(t, singles(6, 10), 1, 1000000)
}

// P5.8: the covers are those with an option and those without it; with the options exchanged there are as many.
func TestCoversWithAndWithout(t *testing.T) {
	r := newRandom()
	for range 300 {
		p := cover.Problem{Items: 12}
		for range 30 {
			p.Options = append(p.Options, r.Perm(12)[:1+r.IntN(4)])
		}
		n, _ := cover.Count(p, 1000000)
		other, _ := cover.Count(mixed(r, p), 1000000)
		if other != n {
			t.Errorf("%v: %d covers, with the options exchanged %d", p, n, other)
		}
		o := r.IntN(30)
		without := p.Options[o]
		p.Options[o] = nil
		left, _ := cover.Count(p, 1000000)
		// Those with it are the covers of the other items by the options that have none of its items.
		for i, option := range p.Options {
			if slices.ContainsFunc(option, func(x int) bool { return slices.Contains(without, x) }) {
				p.Options[i] = nil
			}
		}
		p.Options[o] = without
		with, _ := cover.Count(p, 1000000)
		if with+left != n {
			t.Errorf("%v: %d covers with the option %d, %d without it, and %d in all", p, with, o, left, n)
		}
	}
}

// P1: many searches would take ages if they did not see that the same items are open again.
func TestManyWaysToTheSame(t *testing.T) {
	far := cover.Problem{Items: 64, Options: beside(pairs(12), pairs(12), pairs(13)).Options}
	far.Items = 37
	for _, p := range []cover.Problem{pairs(25), beside(pairs(8), pairs(8), pairs(8), pairs(8), pairs(9)), far} {
		first, e := cover.First(p)
		expectError(t, "First", e, api.ErrNone, first)
		expectCount(t, p, 1000000, 0)
		l, is := cover.Refute(p)
		if !is || !cover.Refutes(p, l) {
			t.Errorf("no refutation of pairs of odd numbers of items")
		}
	}
	p := beside(pairs(12), pairs(12), pairs(12))
	expectCount(t, p, 1000000, math.MaxInt)
}
