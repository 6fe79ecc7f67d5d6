package cover_test

import (
	"fmt"
	"math"
	"math/rand/v2"
	"slices"
	"testing"

	"dauber/api"
	"dauber/cover"
)

// expectEitherPairingOrViolator checks both calls for valid wishes.
func expectEitherPairingOrViolator(t *testing.T, wishes [][]int) (hasPairing bool) {
	t.Helper()
	what := fmt.Sprint("the wishes ", wishes)
	pairing, e := cover.Pairing(wishes)
	violator, is := cover.Violator(wishes)
	switch {
	case e == api.OK && !isPairing(pairing, wishes):
		t.Errorf("%s: %v is no pairing", what, pairing)
	case is != (e == api.ErrNone):
		t.Errorf("%s: error %d, and a violator: %v", what, e, is)
	case is && !isViolator(violator, wishes):
		t.Errorf("%s: %v is no violator", what, violator)
	}
	if e != api.OK {
		expectError(t, what, e, api.ErrNone, pairing)
	}
	if !is {
		expectNothing(t, what, violator)
	}
	return e == api.OK
}

// someWishes returns lists of different numbers before the limit.
func someWishes(r *rand.Rand, n, limit, most int) [][]int {
	wishes := make([][]int, n)
	for w := range wishes {
		wishes[w] = r.Perm(limit)[:r.IntN(min(most, limit)+1)]
	}
	return wishes
}

// P5.2, P5.7: small wishes, of which the oracle tries all pairings.
func TestSmallWishes(t *testing.T) {
	r := newRandom()
	count := map[bool]int{}
	for range 5000 {
		wishes := someWishes(r, r.IntN(7), r.IntN(7)+1, 1+r.IntN(5))
		for w, list := range wishes {
			for i := range list {
				wishes[w][i] = (list[i]*9 + 9) % 64
			}
		}
		want := hasPairing(wishes, map[int]bool{})
		count[want]++
		if expectEitherPairingOrViolator(t, wishes) != want {
			t.Errorf("the wishes %v: there is a pairing: %v", wishes, want)
		}
	}
	if count[true] < 500 || count[false] < 500 {
		t.Errorf("pairings or violators are too few: %v", count)
	}
}

// P5.2, P5.7: up to 64 wishes for up to 64 numbers.
func TestLargeWishes(t *testing.T) {
	r := newRandom()
	count := map[bool]int{}
	for i := range 2000 {
		n, limit := r.IntN(65), r.IntN(64)+1
		if i%2 == 0 {
			n, limit = 64, 64
		}
		wishes := someWishes(r, n, limit, 1+r.IntN(9))
		if i%2 == 0 {
			for w, x := range r.Perm(64) {
				if !slices.Contains(wishes[w], x) && r.IntN(200) > 0 {
					wishes[w] = append(wishes[w], x)
				}
			}
		}
		count[expectEitherPairingOrViolator(t, wishes)]++
	}
	if count[true] < 300 || count[false] < 300 {
		t.Errorf("pairings or violators are too few: %v", count)
	}
}

// P5.2: examples, and wishes at the limits.
func TestWishesAtLimits(t *testing.T) {
	single := func(n int) [][]int {
		var wishes [][]int
		for x := range n {
			wishes = append(wishes, []int{n - 1 - x})
		}
		return wishes
	}
	chain := [][]int{{63}}
	for x := range 63 {
		chain = append(chain, []int{63 - x, 62 - x})
	}
	slices.Reverse(chain)
	for _, x := range []struct {
		wishes [][]int
		want   bool
	}{
		{nil, true},
		{[][]int{{}}, false},
		{[][]int{{0}, {}}, false},
		{[][]int{{}, {0}}, false},
		{[][]int{{63}}, true},
		{[][]int{{0, 1}, {0}, {1}}, false},
		{[][]int{{0, 1}, {0}, {1, 2}}, true},
		{[][]int{{5}, {5}}, false},
		{slices.Repeat([][]int{from(0, 64)}, 64), true},
		{slices.Repeat([][]int{from(0, 63)}, 64), false},
		{slices.Repeat([][]int{from(1, 63)}, 64), false},
		{append(slices.Repeat([][]int{from(0, 63)}, 63), []int{63}), true},
		{single(64), true},
		{append(single(63), []int{62}), false},
		{chain, true},
		{append(chain[:63:63], []int{0}), true},
		{append(chain[1:64:64], []int{62}), false},
		{chain[1:64:64], true},
		{append(chain[1:64:64], []int{}), false},
		{slices.Concat(chain[:40], [][]int{{24, 25}}), true},
		{slices.Concat(chain[24:], [][]int{{50}}), false},
	} {
		if expectEitherPairingOrViolator(t, x.wishes) != x.want {
			t.Errorf("the wishes %v: there is a pairing: %v", x.wishes, x.want)
		}
	}
	violator, is := cover.Violator([][]int{{0, 1}, {0}, {1}})
	if !is || !slices.Equal(violator, []int{0, 1, 2}) {
		t.Errorf("Violator: %v, %v", violator, is)
	}
	pairing, e := cover.Pairing([][]int{{0, 1}, {0}, {1, 2}})
	expectList(t, "Pairing", pairing, e, []int{1, 0, 2})
}

// P5.2: too many wishes come before numbers that are out of range or there twice, and these before missing pairings.
func TestWishErrors(t *testing.T) {
	for _, x := range []struct {
		wishes [][]int
		want   api.Errno
	}{
		{slices.Repeat([][]int{{0}}, 65), api.ErrLong},
		{make([][]int, 65), api.ErrLong},
		{slices.Repeat([][]int{{64}}, 65), api.ErrLong},
		{make([][]int, 1<<20), api.ErrLong},
		{[][]int{{64}}, api.ErrArg},
		{[][]int{{-1}}, api.ErrArg},
		{[][]int{{0, 0}}, api.ErrArg},
		{[][]int{{0, 1, 2, 0}}, api.ErrArg},
		{[][]int{{63, 63}}, api.ErrArg},
		{[][]int{{}, {64}}, api.ErrArg},
		{[][]int{{0}, {0}, {1, 1}}, api.ErrArg},
		{[][]int{{math.MaxInt}}, api.ErrArg},
		{[][]int{{math.MinInt}}, api.ErrArg},
		{[][]int{make([]int, 1<<20)}, api.ErrArg},
		{[][]int{from(0, 65)}, api.ErrArg},
		{append(make([][]int, 63), []int{1, 1}), api.ErrArg},
		{make([][]int, 64), api.ErrNone},
		{slices.Repeat([][]int{{0}}, 64), api.ErrNone},
	} {
		what := fmt.Sprint("Pairing of ", len(x.wishes), " wishes, the last ones ", x.wishes[max(0, len(x.wishes)-3):])
		pairing, e := cover.Pairing(x.wishes)
		expectError(t, what[:min(len(what), 200)], e, x.want, pairing)
		violator, is := cover.Violator(x.wishes)
		if is != (x.want == api.ErrNone) {
			t.Errorf("%.200s: Violator is %v, %v", what, violator, is)
		}
		if !is {
			expectNothing(t, "Violator", violator)
		}
	}
}
