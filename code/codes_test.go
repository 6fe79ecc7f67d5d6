package code_test

import (
	"math"
	"slices"
	"testing"

	"dauber/api"
	"dauber/code"
)

// codeCase is a code, and what Check returns for it.
type codeCase struct {
	c code.Code
	e api.Errno
}

func codeCases() []codeCase {
	many := firstPoints(67, 65, 1).Points
	return []codeCase{
		{firstPoints(7, 6, 2), api.OK},
		{firstPoints(7, 7, 7), api.OK},
		{firstPoints(7, 7, 1), api.OK},
		{firstPoints(2, 1, 1), api.OK},
		{firstPoints(64, 64, 64), api.OK},
		{firstPoints(67, 64, 1), api.OK},
		{firstPoints(65536, 64, 3), api.OK},
		{code.Code{Order: 9, Points: []int{8, 0, 3}, K: 2}, api.OK},
		{code.Code{Order: 65536, Points: []int{65535, 0, 40000}, K: 1}, api.OK},

		{firstPoints(6, 5, 2), api.ErrField},
		{firstPoints(1, 1, 1), api.ErrField},
		{firstPoints(0, 3, 1), api.ErrField},
		{firstPoints(-7, 5, 1), api.ErrField},
		{firstPoints(65537, 5, 1), api.ErrField},
		{firstPoints(131072, 5, 1), api.ErrField},
		{firstPoints(math.MaxInt, 5, 1), api.ErrField},
		{firstPoints(math.MinInt, 5, 1), api.ErrField},
		{code.Code{}, api.ErrField},
		{code.Code{Order: 12, Points: many, K: 1}, api.ErrField},
		{code.Code{Order: 10, Points: []int{0, 0, 11}, K: -1}, api.ErrField},

		{firstPoints(67, 65, 1), api.ErrLong},
		{firstPoints(67, 65, 65), api.ErrLong},
		{firstPoints(128, 100, 5), api.ErrLong},
		{code.Code{Order: 67, Points: many, K: 0}, api.ErrLong},
		{code.Code{Order: 67, Points: many, K: 66}, api.ErrLong},
		{code.Code{Order: 2, Points: many, K: 1}, api.ErrLong},
		{code.Code{Order: 67, Points: make([]int, 65), K: 1}, api.ErrLong},

		{firstPoints(7, 5, 0), api.ErrArg},
		{firstPoints(7, 5, -1), api.ErrArg},
		{firstPoints(7, 5, math.MinInt), api.ErrArg},
		{firstPoints(7, 5, 6), api.ErrArg},
		{firstPoints(7, 5, math.MaxInt), api.ErrArg},
		{firstPoints(64, 64, 65), api.ErrArg},
		{code.Code{Order: 7}, api.ErrArg},
		{code.Code{Order: 7, K: 1}, api.ErrArg},
		{code.Code{Order: 7, Points: []int{0, 1, 1}, K: 1}, api.ErrArg},
		{code.Code{Order: 7, Points: []int{2, 0, 1, 2}, K: 1}, api.ErrArg},
		{code.Code{Order: 7, Points: []int{0, 0, 0}, K: 1}, api.ErrArg},
		{code.Code{Order: 7, Points: []int{0, 1, 7}, K: 1}, api.ErrArg},
		{code.Code{Order: 7, Points: []int{8, 1, 2}, K: 1}, api.ErrArg},
		{code.Code{Order: 7, Points: []int{0, -1, 1}, K: 1}, api.ErrArg},
		{code.Code{Order: 8, Points: []int{0, 1, 8}, K: 1}, api.ErrArg},
		{code.Code{Order: 7, Points: []int{0, 1, math.MaxInt}, K: 1}, api.ErrArg},
		{code.Code{Order: 7, Points: []int{0, 1, math.MinInt}, K: 1}, api.ErrArg},
		{firstPoints(2, 3, 1), api.ErrArg},
	}
}

// P3.1: Check.
func TestCheck(t *testing.T) {
	for _, c := range codeCases() {
		if e := code.Check(c.c); e != c.e {
			t.Errorf("Check(%v): %d; want %d", c.c, e, c.e)
		}
	}
}

// P3.1: of each number below 300, and of some others, whether there is a field of that order.
func TestCheckOrders(t *testing.T) {
	isPower := func(order int) bool {
		for p := 2; p <= order; p++ {
			if order%p != 0 {
				continue
			}
			for order%p == 0 {
				order /= p
			}
			return order == 1
		}
		return false
	}
	orders := []int{65521, 65520, 59049, 65025, 63001, 32768, 32769, 65535, 65536, 65537, 65539, 66049}
	for order := -3; order < 300; order++ {
		orders = append(orders, order)
	}
	for _, order := range orders {
		want := api.ErrField
		if isPower(order) && order <= api.MaxOrder {
			want = api.OK
		}
		if e := code.Check(code.Code{Order: order, Points: []int{1, 0}, K: 1}); e != want {
			t.Errorf("Check of the order %d: %d; want %d", order, e, want)
		}
	}
}

// P3.1: all functions that take a code return first what Check returns, whatever their other arguments are.
func TestCodeErrorsComeFirst(t *testing.T) {
	for _, c := range codeCases() {
		if c.e == api.OK {
			continue
		}
		n := len(c.c.Points)
		// At each point the polynomial x has this element: with K = 1 it would be far from all words.
		identity := make([]int, n)
		for i, x := range c.c.Points {
			if c.c.Order > 0 {
				identity[i] = max(0, x%c.c.Order)
			}
		}
		for _, w := range [][]int{make([]int, n), identity, make([]int, n+1), slices.Repeat([]int{-1}, n), nil} {
			message, e := code.Message(c.c, w)
			expectError(t, "Message", e, c.e, message)
			if code.IsWord(c.c, w) {
				t.Errorf("IsWord(%v, %v)", c.c, w)
			}
			for _, erased := range [][]int{nil, {0, 0}, {-1}} {
				word, e := code.Decode(c.c, w, erased)
				expectError(t, "Decode", e, c.e, word)
				far, is := code.Deny(c.c, w, erased)
				expectError(t, "Deny", api.OK, api.OK, far, is)
				for _, far := range []code.Far{{Q: []int{0, 1}, E: []int{1}}, {Q: []int{0, 1}}, {Q: []int{1}, E: []int{1}}, {E: []int{1}}, {}} {
					if code.Denies(c.c, w, erased, far) {
						t.Errorf("Denies(%v, %v, %v, %v)", c.c, w, erased, far)
					}
				}
			}
			for _, radius := range []int{0, 3, -1} {
				words, e := code.Within(c.c, w, radius)
				expectError(t, "Within", e, c.e, words)
			}
		}
		for _, length := range []int{c.c.K, n, 0, 1} {
			if length < 0 || length > 100 {
				continue
			}
			for _, message := range [][]int{make([]int, length), slices.Repeat([]int{-1}, length)} {
				word, e := code.Encode(c.c, message)
				expectError(t, "Encode", e, c.e, word)
			}
		}
	}
	valid := firstPoints(7, 5, 1)
	if !code.Denies(valid, valid.Points, nil, code.Far{Q: []int{0, 1}, E: []int{1}}) {
		t.Error("Denies of the polynomial x")
	}
}

func smallCodes() []code.Code {
	return []code.Code{
		{Order: 2, Points: []int{1}, K: 1},
		{Order: 2, Points: []int{1, 0}, K: 1},
		{Order: 2, Points: []int{0, 1}, K: 2},
		{Order: 3, Points: []int{2}, K: 1},
		{Order: 3, Points: []int{2, 0}, K: 1},
		{Order: 3, Points: []int{0, 1, 2}, K: 1},
		{Order: 3, Points: []int{2, 0, 1}, K: 2},
		{Order: 3, Points: []int{1, 0, 2}, K: 3},
		{Order: 4, Points: []int{0, 1, 2, 3}, K: 1},
		{Order: 4, Points: []int{3, 0, 2, 1}, K: 2},
		{Order: 4, Points: []int{3, 1, 2, 0}, K: 3},
		{Order: 4, Points: []int{1, 3, 2}, K: 2},
		{Order: 5, Points: []int{0, 1, 2, 3}, K: 1},
		{Order: 5, Points: []int{4, 1, 3, 0, 2}, K: 1},
		{Order: 5, Points: []int{4, 1, 3, 0, 2}, K: 2},
		{Order: 5, Points: []int{0, 1, 2, 3, 4}, K: 3},
		{Order: 7, Points: []int{6, 2, 4}, K: 1},
		{Order: 7, Points: []int{6, 2, 4, 1}, K: 2},
		{Order: 8, Points: []int{7, 2, 4}, K: 1},
		{Order: 9, Points: []int{7, 0, 4}, K: 2},
	}
}

func largeCodes() []code.Code {
	r := newRandom()
	var codes []code.Code
	for _, q := range []int{64, 67, 81, 128, 243, 256, 257, 65521} {
		for _, k := range []int{1, 2, 7, 31, 32, 33, 62, 63, 64} {
			codes = append(codes, anyCode(r, q, 64, k))
		}
		codes = append(codes, anyCode(r, q, 63, 20), anyCode(r, q, 1, 1), anyCode(r, q, 2, 1), anyCode(r, q, 30, 11))
	}
	codes = append(codes, anyCode(r, 65536, 64, 30), anyCode(r, 65536, 41, 8), anyCode(r, 59049, 64, 29))
	for _, q := range []int{7, 8, 9, 11, 13, 16, 25, 27, 31, 32, 49} {
		for k := 1; k <= q; k += 2 {
			codes = append(codes, anyCode(r, q, q, k))
		}
	}
	return codes
}

// P3.2, P3.7: Encode of all messages of small codes; Message of what it returns is the message.
func TestEncode(t *testing.T) {
	for _, c := range smallCodes() {
		f := fieldOf(c.Order)
		for message := range lists(0, c.Order-1, c.K) {
			w, e := code.Encode(c, message)
			expectList(t, "Encode", w, e, values(f, c.Points, message))
			again, e := code.Message(c, w)
			expectList(t, "Message", again, e, message)
		}
	}
}

// P3.2, P3.7: IsWord and Message of all lists of elements; Encode of a message is the word.
func TestMessage(t *testing.T) {
	for _, c := range smallCodes() {
		f := fieldOf(c.Order)
		words := allWords(f, c)
		for w := range lists(0, c.Order-1, len(c.Points)) {
			_, is := slices.BinarySearchFunc(words, w, slices.Compare)
			if code.IsWord(c, w) != is {
				t.Errorf("IsWord(%v, %v): %t", c, w, !is)
			}
			message, e := code.Message(c, w)
			if !is {
				expectError(t, "Message", e, api.ErrFar, message)
				continue
			}
			if len(message) != c.K {
				t.Errorf("Message(%v, %v): %v", c, w, message)
			}
			again, e := code.Encode(c, message)
			expectList(t, "Encode", again, e, w)
		}
	}
}

// P3.2, P3.7: large codes, also with messages whose last elements are 0.
func TestEncodeLarge(t *testing.T) {
	r := newRandom()
	for _, c := range largeCodes() {
		f := fieldOf(c.Order)
		for i := range 3 {
			message := anyList(r, c.Order, c.K)
			switch i {
			case 1:
				clear(message[r.IntN(c.K):])
			case 2:
				clear(message)
			}
			w, e := code.Encode(c, message)
			expectList(t, "Encode", w, e, values(f, c.Points, message))
			if !code.IsWord(c, w) {
				t.Errorf("IsWord(%v, %v)", c, w)
			}
			again, e := code.Message(c, w)
			expectList(t, "Message", again, e, message)
			if c.K == len(c.Points) {
				continue
			}
			place := r.IntN(len(w))
			w[place] = f.Add(w[place], 1+r.IntN(c.Order-1))
			if code.IsWord(c, w) {
				t.Errorf("IsWord(%v, %v), which has an error", c, w)
			}
			again, e = code.Message(c, w)
			expectError(t, "Message", e, api.ErrFar, again)
		}
	}
}

// P3.2: the errors of Encode, IsWord and Message, in their order.
func TestWordErrors(t *testing.T) {
	c := firstPoints(7, 4, 2)
	for _, x := range []struct {
		message []int
		e       api.Errno
	}{
		{nil, api.ErrShape}, {[]int{}, api.ErrShape}, {[]int{1}, api.ErrShape}, {[]int{1, 2, 0}, api.ErrShape}, {[]int{1, 2, 3, 4}, api.ErrShape}, {[]int{7}, api.ErrShape}, {[]int{-1, 0, 9}, api.ErrShape},
		{[]int{7, 0}, api.ErrArg}, {[]int{0, 7}, api.ErrArg}, {[]int{-1, 0}, api.ErrArg}, {[]int{0, -1}, api.ErrArg}, {[]int{math.MaxInt, 0}, api.ErrArg}, {[]int{0, math.MinInt}, api.ErrArg},
	} {
		w, e := code.Encode(c, x.message)
		expectError(t, "Encode", e, x.e, w)
	}
	for _, x := range []struct {
		w []int
		e api.Errno
	}{
		{nil, api.ErrShape}, {[]int{0, 0, 0}, api.ErrShape}, {[]int{0, 0, 0, 0, 0}, api.ErrShape}, {[]int{7, 0, 0}, api.ErrShape}, {[]int{0, 0, 0, 0, -1}, api.ErrShape}, {[]int{1, 2}, api.ErrShape},
		{[]int{7, 0, 0, 0}, api.ErrArg}, {[]int{0, 0, 0, 7}, api.ErrArg}, {[]int{0, -7, 0, 0}, api.ErrArg}, {[]int{1, 2, 3, 11}, api.ErrArg}, {[]int{-1, 0, 0, 0}, api.ErrArg}, {[]int{math.MinInt, 0, 1, 0}, api.ErrArg}, {[]int{math.MaxInt, 0, 1, 0}, api.ErrArg},
		{[]int{1, 2, 3, 5}, api.ErrFar}, {[]int{0, 0, 0, 1}, api.ErrFar}, {[]int{1, 0, 0, 0}, api.ErrFar}, {[]int{0, 1, 4, 2}, api.ErrFar},
	} {
		message, e := code.Message(c, x.w)
		expectError(t, "Message", e, x.e, message)
		if code.IsWord(c, x.w) {
			t.Errorf("IsWord(%v, %v)", c, x.w)
		}
	}
}

// P3.8: two words of the code that agree in K places are the same, and any K places can have any elements.
func TestAnyPlaces(t *testing.T) {
	r := newRandom()
	for _, c := range smallCodes() {
		for places := range subsets(r, len(c.Points), c.K) {
			if len(places) != c.K {
				continue
			}
			seen := map[int]bool{}
			count := 0
			for message := range lists(0, c.Order-1, c.K) {
				w, _ := code.Encode(c, message)
				number := 0
				for _, place := range places {
					number = number*c.Order + w[place]
				}
				seen[number] = true
				count++
			}
			if len(seen) != count {
				t.Errorf("%v: %d words are %d at the places %v", c, count, len(seen), places)
			}
		}
	}
}
