package code_test

import (
	"math"
	"slices"
	"testing"

	"dauber/api"
	"dauber/code"
)

// P3.4: Within of small codes with all radii.
func TestWithin(t *testing.T) {
	r := newRandom()
	for _, c := range smallCodes() {
		f, n := fieldOf(c.Order), len(c.Points)
		words := allWords(f, c)
		for w := range lists(0, c.Order-1, n) {
			if n > 3 && r.IntN(10) > 0 {
				continue
			}
			for _, radius := range []int{0, 1, 2, 3, 4, 5, 6, 1000, math.MaxInt/2 + 1, math.MaxInt} {
				want := nearWords(words, w, nil, radius)
				got, e := code.Within(c, w, radius)
				if e != api.OK || !sameRows(got, want) {
					t.Fatalf("Within(%v, %v, %d): %v, %d; want %v", c, w, radius, got, e, want)
				}
			}
		}
	}
}

// P3.4: the words are all of the code's, in order, for codes with many words.
func TestWithinLarge(t *testing.T) {
	r := newRandom()
	for _, c := range []code.Code{anyCode(r, 16, 9, 3), anyCode(r, 31, 30, 3), anyCode(r, 67, 64, 2), anyCode(r, 1024, 64, 1), anyCode(r, 1021, 5, 1), anyCode(r, 8, 8, 5), anyCode(r, 9, 5, 4), anyCode(r, 243, 30, 2), anyCode(r, 3, 3, 3)} {
		f, n := fieldOf(c.Order), len(c.Points)
		words := allWords(f, c)
		w := slices.Clone(words[r.IntN(len(words))])
		for range r.IntN(n + 1) {
			w[r.IntN(n)] = r.IntN(c.Order)
		}
		for _, radius := range []int{0, 1, (n - c.K) / 2, (n-c.K)/2 + 1, n - c.K, n - c.K + 1, n - 1, n} {
			want := nearWords(words, w, nil, radius)
			got, e := code.Within(c, w, radius)
			if e != api.OK || !sameRows(got, want) {
				t.Errorf("Within(%v, %v, %d): %d words, %d; want %d", c, w, radius, len(got), e, len(want))
			}
		}
	}
}

// The example of the tests, and an example calculated by hand.
func TestWithinExamples(t *testing.T) {
	words, e := code.Within(firstPoints(3, 3, 1), []int{0, 0, 1}, 2)
	expectRows(t, "Within", words, e, [][]int{{0, 0, 0}, {1, 1, 1}})
	words, e = code.Within(code.Code{Order: 3, Points: []int{2, 1, 0}, K: 2}, []int{0, 0, 1}, 1)
	expectRows(t, "Within", words, e, [][]int{{0, 0, 0}, {0, 2, 1}, {2, 0, 1}})
	words, e = code.Within(firstPoints(7, 6, 2), []int{1, 3, 6, 6, 0, 0}, 2)
	expectRows(t, "Within", words, e, nil)
	words, e = code.Within(firstPoints(7, 6, 2), []int{1, 3, 5, 0, 0, 0}, 2)
	expectRows(t, "Within", words, e, [][]int{{1, 3, 5, 0, 2, 4}})
}

// P3.4: codes with 65536 words and with more.
func TestWithinMany(t *testing.T) {
	for _, x := range []struct {
		order, n, k int
		e           api.Errno
	}{
		{65536, 3, 1, api.OK}, {65521, 64, 1, api.OK}, {256, 64, 2, api.OK}, {16, 16, 4, api.OK}, {251, 3, 2, api.OK}, {37, 5, 3, api.OK}, {4, 4, 4, api.OK}, {9, 9, 5, api.OK},
		{65536, 3, 2, api.ErrMany}, {65521, 2, 2, api.ErrMany}, {257, 64, 2, api.ErrMany}, {257, 2, 2, api.ErrMany}, {17, 17, 4, api.ErrMany}, {41, 5, 3, api.ErrMany}, {16, 16, 5, api.ErrMany}, {16, 16, 16, api.ErrMany}, {9, 9, 6, api.ErrMany},
		{65536, 64, 3, api.ErrMany}, {65536, 64, 4, api.ErrMany}, {65536, 64, 8, api.ErrMany}, {65536, 64, 64, api.ErrMany}, {256, 64, 8, api.ErrMany}, {64, 64, 64, api.ErrMany}, {64, 64, 32, api.ErrMany}, {59049, 64, 63, api.ErrMany},
	} {
		c := firstPoints(x.order, x.n, x.k)
		w := make([]int, x.n)
		for _, radius := range []int{0, x.n - x.k, math.MaxInt} {
			words, e := code.Within(c, w, radius)
			switch {
			case x.e != api.OK:
				expectError(t, "Within", e, x.e, words)
			case radius < math.MaxInt:
				expectRows(t, "Within", words, e, [][]int{w})
			case e != api.OK || len(words) != int(powerOf(int64(x.order), x.k).Int64()) || !slices.IsSortedFunc(words, slices.Compare):
				t.Errorf("Within(%v, %v, %d): %d words, %d", c, w, radius, len(words), e)
			}
		}
	}
}

// P3.4: the errors of Within, in their order.
func TestWithinErrors(t *testing.T) {
	few, many := firstPoints(7, 4, 2), firstPoints(7, 7, 7)
	zeros := make([]int, 8)
	for _, x := range []struct {
		name   string
		c      code.Code
		w      []int
		radius int
		e      api.Errno
	}{
		{"no word", few, nil, 1, api.ErrShape},
		{"a short word", few, zeros[:3], 1, api.ErrShape},
		{"a long word", few, zeros[:5], 1, api.ErrShape},
		{"a short word and a negative radius", few, zeros[:3], -1, api.ErrShape},
		{"a short word of elements that are none", few, []int{-1, 7}, 1, api.ErrShape},
		{"a long word of a code with many words", many, zeros, 1, api.ErrShape},
		{"7", few, []int{0, 0, 0, 7}, 1, api.ErrArg},
		{"-1", few, []int{-1, 0, 0, 0}, 1, api.ErrArg},
		{"the least int", few, []int{0, math.MinInt, 0, 0}, 9, api.ErrArg},
		{"7, of a code with many words", many, []int{0, 0, 0, 0, 0, 0, 7}, 1, api.ErrArg},
		{"the radius -1", few, zeros[:4], -1, api.ErrArg},
		{"the least radius", few, zeros[:4], math.MinInt, api.ErrArg},
		{"the radius -1, of a code with many words", many, zeros[:7], -1, api.ErrArg},
		{"many words", many, zeros[:7], 0, api.ErrMany},
		{"many words and a great radius", many, zeros[:7], math.MaxInt, api.ErrMany},
	} {
		words, e := code.Within(x.c, x.w, x.radius)
		expectError(t, "Within of "+x.name, e, x.e, words)
	}
}

// P3.3, P3.4: within the radius of Decode there is the word that Decode returns, and no other one.
func TestWithinDecodes(t *testing.T) {
	r := newRandom()
	for range 200 {
		c := anyCode(r, 13, 12, 1+r.IntN(4))
		f := fieldOf(13)
		word, _ := code.Encode(c, anyList(r, 13, c.K))
		w := damaged(f, r, word, nil, r.IntN(13))
		near, e := code.Within(c, w, radiusOf(c, nil))
		got, failed := code.Decode(c, w, nil)
		if e != api.OK || len(near) > 1 || (failed == api.OK) != (len(near) == 1) || len(near) == 1 && !slices.Equal(near[0], got) {
			t.Errorf("%v, %v: %v, %d; %v, %d", c, w, near, e, got, failed)
		}
	}
}
