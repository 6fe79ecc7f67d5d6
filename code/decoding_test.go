package code_test

import (
	"math"
	"math/rand/v2"
	"slices"
	"testing"

	"dauber/api"
	"dauber/code"
	"dauber/field"
)

// nearWords returns the words whose distance from w is at most the radius.
func nearWords(words [][]int, w, erased []int, radius int) [][]int {
	var near [][]int
	for _, word := range words {
		if apart(word, w, erased) <= radius {
			near = append(near, word)
		}
	}
	return near
}

// P3.3, P3.7: Decode and Deny of small codes, of all lists of elements (or of many) with all erasures.
func TestDecode(t *testing.T) {
	r := newRandom()
	for _, c := range smallCodes() {
		f, n := fieldOf(c.Order), len(c.Points)
		words := allWords(f, c)
		for erased := range subsets(r, n, n-c.K) {
			for w := range lists(0, c.Order-1, n) {
				if n > 4 && r.IntN(20) > 0 {
					continue
				}
				near := nearWords(words, w, erased, radiusOf(c, erased))
				got, e := code.Decode(c, w, erased)
				far, denied := code.Deny(c, w, erased)
				switch len(near) {
				case 0:
					expectError(t, "Decode", e, api.ErrFar, got)
					if !denied || !isFar(f, c, w, erased, far) || !code.Denies(c, w, erased, far) {
						t.Fatalf("Deny(%v, %v, %v): %v, %t", c, w, erased, far, denied)
					}
				case 1:
					expectList(t, "Decode", got, e, near[0])
					expectError(t, "Deny", api.OK, api.OK, far, denied)
				default:
					t.Fatalf("%v: more than one word is near %v", c, w)
				}
			}
		}
	}
}

// damaged returns a copy of the word with so many other elements at places that are not erased, and with any elements at erased ones.
func damaged(f *field.Field, r *rand.Rand, word, erased []int, errors int) []int {
	w := slices.Clone(word)
	for _, place := range r.Perm(len(w)) {
		switch {
		case slices.Contains(erased, place):
			w[place] = r.IntN(f.Order())
		case errors > 0:
			w[place] = f.Add(w[place], 1+r.IntN(f.Order()-1))
			errors--
		}
	}
	return w
}

// P3.3, P3.7: large codes, with any number of erasures and errors: a certificate shows that each answer is right.
func TestDecodeLarge(t *testing.T) {
	r := newRandom()
	for _, c := range largeCodes() {
		f, n := fieldOf(c.Order), len(c.Points)
		for i := range 8 {
			if c.Order > 256 && i > 2 {
				break
			}
			erased := r.Perm(n)[:r.IntN(n-c.K+1)]
			switch i {
			case 0:
				erased = nil
			case 1:
				erased = r.Perm(n)[:n-c.K]
			}
			radius := radiusOf(c, erased)
			word, _ := code.Encode(c, anyList(r, c.Order, c.K))
			for _, errors := range []int{0, radius, r.IntN(radius + 1)} {
				w := damaged(f, r, word, erased, errors)
				got, e := code.Decode(c, w, erased)
				expectList(t, "Decode", got, e, word)
				far, is := code.Deny(c, w, erased)
				expectError(t, "Deny", api.OK, api.OK, far, is)
			}
			for _, errors := range []int{radius + 1, radius + 2, n} {
				checkAnswer(t, f, c, damaged(f, r, word, erased, errors), erased)
			}
		}
	}
}

// checkAnswer checks that there is either a word within the radius or a far pair.
func checkAnswer(t *testing.T, f *field.Field, c code.Code, w, erased []int) {
	t.Helper()
	got, e := code.Decode(c, w, erased)
	far, denied := code.Deny(c, w, erased)
	switch e {
	case api.OK:
		if !code.IsWord(c, got) || apart(got, w, erased) > radiusOf(c, erased) || denied || !isNothingFar(far) {
			t.Errorf("Decode(%v, %v, %v): %v; %v, %t", c, w, erased, got, far, denied)
		}
	case api.ErrFar:
		if len(got) > 0 || !denied || !isFar(f, c, w, erased, far) || !code.Denies(c, w, erased, far) {
			t.Errorf("Deny(%v, %v, %v): %v, %t", c, w, erased, far, denied)
		}
	default:
		t.Errorf("Decode(%v, %v, %v): %d", c, w, erased, e)
	}
}

func isNothingFar(far code.Far) bool {
	return len(far.Q) == 0 && len(far.E) == 0
}

// The examples of the chapter.
func TestDecodeExamples(t *testing.T) {
	c := firstPoints(7, 6, 2)
	w, e := code.Encode(c, []int{1, 2})
	expectList(t, "Encode", w, e, []int{1, 3, 5, 0, 2, 4})
	w, e = code.Decode(c, []int{1, 3, 5, 0, 0, 0}, nil)
	expectList(t, "Decode", w, e, []int{1, 3, 5, 0, 2, 4})
	w, e = code.Decode(c, []int{1, 3, 6, 6, 0, 0}, nil)
	expectError(t, "Decode", e, api.ErrFar, w)
}

// P3.3: the errors of Decode, in their order; Deny and Denies are false then.
func TestDecodeErrors(t *testing.T) {
	c := firstPoints(7, 5, 2)
	word := []int{0, 1, 2, 3, 4}
	for _, x := range []struct {
		name      string
		w, erased []int
		e         api.Errno
	}{
		{"no word", nil, nil, api.ErrShape},
		{"a short word", word[:4], nil, api.ErrShape},
		{"a long word", []int{0, 1, 2, 3, 4, 0}, nil, api.ErrShape},
		{"a short word and elements that are none", []int{7, -1}, nil, api.ErrShape},
		{"a short word and the same place twice", word[:4], []int{1, 1}, api.ErrShape},
		{"a long word, which has the erased place", []int{0, 1, 2, 3, 4, 0}, []int{5}, api.ErrShape},
		{"many erasures", word, []int{0, 1, 2, 3}, api.ErrShape},
		{"all places", word, []int{4, 3, 2, 1, 0}, api.ErrShape},
		{"many erasures, which are the same", word, []int{0, 0, 0, 0}, api.ErrShape},
		{"many erasures, which are no places", word, []int{5, 6, 7, -1}, api.ErrShape},
		{"many erasures and an element that is none", []int{7, 1, 2, 3, 4}, []int{0, 1, 2, 3}, api.ErrShape},
		{"7", []int{0, 1, 2, 3, 7}, nil, api.ErrArg},
		{"-1", []int{-1, 1, 2, 3, 4}, nil, api.ErrArg},
		{"the greatest int", []int{0, 1, 2, 3, math.MaxInt}, nil, api.ErrArg},
		{"the least int", []int{math.MinInt, 1, 2, 3, 4}, nil, api.ErrArg},
		{"7 at an erased place", []int{7, 1, 2, 3, 4}, []int{0}, api.ErrArg},
		{"-1 at an erased place", []int{0, 1, 2, 3, -1}, []int{1, 4}, api.ErrArg},
		{"8 at the last of three erased places", []int{0, 8, 2, 3, 4}, []int{4, 0, 1}, api.ErrArg},
		{"the same place twice", word, []int{1, 1}, api.ErrArg},
		{"the same place twice, not in a row", word, []int{2, 0, 2}, api.ErrArg},
		{"the first place twice", word, []int{0, 0}, api.ErrArg},
		{"the place 5", word, []int{5}, api.ErrArg},
		{"the place 5, and others", word, []int{0, 1, 5}, api.ErrArg},
		{"the place -1", word, []int{-1}, api.ErrArg},
		{"the place -1, and others", word, []int{-1, 4}, api.ErrArg},
		{"a place of the greatest int", word, []int{math.MaxInt}, api.ErrArg},
		{"a place of the least int", word, []int{math.MinInt, 2}, api.ErrArg},
	} {
		got, e := code.Decode(c, x.w, x.erased)
		expectError(t, "Decode of "+x.name, e, x.e, got)
		far, is := code.Deny(c, x.w, x.erased)
		expectError(t, "Deny of "+x.name, api.OK, api.OK, far, is)
		for _, far := range []code.Far{{}, {Q: []int{0, 1}, E: []int{1}}, {Q: []int{0, 0, 1}, E: []int{1}}, {Q: []int{1}, E: []int{1}}, {Q: []int{1}}, {E: []int{1}}, {E: []int{0, 1}}} {
			if code.Denies(c, x.w, x.erased, far) {
				t.Errorf("Denies of %s: %v", x.name, far)
			}
		}
	}
	full := firstPoints(7, 3, 3)
	got, e := code.Decode(full, []int{1, 2, 4}, []int{1})
	expectError(t, "Decode of a code without other lists", e, api.ErrShape, got)
	got, e = code.Decode(full, []int{1, 2, 4}, []int{})
	expectList(t, "Decode of a code without other lists", got, e, []int{1, 2, 4})
}

// P3.3: erased places keep nothing of what they had, and the order of the erasures does not matter.
func TestErasures(t *testing.T) {
	c := firstPoints(7, 6, 2)
	want := []int{1, 3, 5, 0, 2, 4}
	for order := range subsets(newRandom(), 6, 4) {
		for a := range 7 {
			w := slices.Clone(want)
			for _, place := range order {
				w[place] = a
			}
			got, e := code.Decode(c, w, order)
			expectList(t, "Decode", got, e, want)
		}
	}
	got, e := code.Decode(c, []int{1, 3, 5, 0, 0, 0}, []int{4, 0})
	expectList(t, "Decode with an error and two erasures", got, e, want)
	got, e = code.Decode(c, []int{1, 3, 5, 0, 0, 0}, []int{0, 1, 2})
	expectList(t, "Decode with the last three places", got, e, make([]int, 6))
	got, e = code.Decode(c, []int{1, 3, 6, 6, 0, 0}, []int{1, 5})
	expectError(t, "Decode with three errors and two erasures", e, api.ErrFar, got)
}

// P3.3: Denies of all pairs of short lists, valid and not, against the definition.
func TestDenies(t *testing.T) {
	r := newRandom()
	count := 0
	for _, c := range []code.Code{
		{Order: 2, Points: []int{1, 0}, K: 1},
		{Order: 3, Points: []int{2, 0, 1}, K: 1},
		{Order: 3, Points: []int{0, 1, 2}, K: 2},
		{Order: 4, Points: []int{0, 3, 1, 2}, K: 1},
		{Order: 4, Points: []int{0, 3, 1}, K: 1},
	} {
		f, n := fieldOf(c.Order), len(c.Points)
		for erased := range subsets(r, n, n-c.K) {
			for range 4 {
				w := anyList(r, c.Order, n)
				for far := range pairs(c.Order, n-len(erased)+1-radiusOf(c, erased), radiusOf(c, erased)+2) {
					is := isFar(f, c, w, erased, far)
					if code.Denies(c, w, erased, far) != is {
						t.Fatalf("Denies(%v, %v, %v, %v): %t", c, w, erased, far, !is)
					}
					if is {
						count++
					}
				}
			}
		}
	}
	if count < 100 {
		t.Errorf("only %d far pairs", count)
	}
}

// pairs yields all pairs of at most so many numbers each, from -1 to q.
func pairs(q, longestQ, longestE int) func(func(code.Far) bool) {
	return func(yield func(code.Far) bool) {
		for lengthE := range longestE + 1 {
			for e := range lists(-1, q, lengthE) {
				for lengthQ := range longestQ + 1 {
					for p := range lists(0, q-1, lengthQ) {
						if !yield(code.Far{Q: p, E: e}) {
							return
						}
					}
				}
			}
		}
	}
}

// P3.3: Denies of a far pair that is changed in one way. All that is wrong is what its name says.
func TestDeniesChanged(t *testing.T) {
	// w is the polynomial x^2, the radius is 1: Q has at most 4 coefficients, E at most 2.
	c := firstPoints(7, 5, 2)
	w := []int{0, 1, 4, 2, 2}
	product := func(a ...int) []int { return a }
	for _, x := range []struct {
		name string
		q, e []int
		is   bool
	}{
		{"the polynomial of w", product(0, 0, 1), product(1), true},
		{"a multiple by 3", product(0, 0, 3), product(3), true},
		{"a multiple by x", product(0, 0, 0, 1), product(0, 1), true},
		{"a multiple by x - 6", product(0, 0, 1, 1), product(1, 1), true},
		{"a multiple by x^2, which is too long", product(0, 0, 0, 0, 1), product(0, 0, 1), false},
		{"a multiple of E alone", product(0, 0, 1), product(2), false},
		{"no E", product(0, 0, 1), nil, false},
		{"no Q", nil, product(1), false},
		{"neither", nil, nil, false},
		{"both 0, with a coefficient", product(0), product(0), false},
		{"Q with a 0 at its end", product(0, 0, 1, 0), product(1), false},
		{"E with a 0 at its end", product(0, 0, 1), product(1, 0), false},
		{"both with a 0 at their ends", product(0, 0, 1, 0), product(1, 0), false},
		{"Q with 7 added", product(0, 0, 8), product(1), false},
		{"Q with 7 added to a 0", product(7, 0, 1), product(1), false},
		{"Q with 7 taken", product(-7, 0, 1), product(1), false},
		{"E with 7 added", product(0, 0, 1), product(8), false},
		{"E with 7 taken", product(0, 0, 1), product(-6), false},
		{"the greatest int in Q", product(0, 0, math.MaxInt), product(1), false},
		{"the least int in E", product(0, 0, 1), product(math.MinInt), false},
		{"Q of 201 coefficients", append(make([]int, 200), 1), product(1), false},
		{"E of 201 coefficients", product(0, 0, 1), append(make([]int, 200), 1), false},
		{"Q of 1000 coefficients, which is the same at all points", append(append(product(0, 0, 1), make([]int, 995)...), 1), product(1), false},
	} {
		if code.Denies(c, w, nil, code.Far{Q: x.q, E: x.e}) != x.is {
			t.Errorf("Denies of %s: %t", x.name, !x.is)
		}
	}
	far := code.Far{Q: product(0, 0, 1), E: product(1)}
	for _, x := range []struct {
		name      string
		w, erased []int
		is        bool
	}{
		{"a radius of 1 with an erasure", w, []int{0}, true},
		{"a radius of 0", w, []int{0, 1}, true},
		{"a radius of 0 that Q is too long for", w, []int{0, 1, 2}, false},
		{"an erased place with another element", []int{5, 1, 4, 2, 2}, []int{0}, true},
		{"another element", []int{5, 1, 4, 2, 2}, nil, false},
		{"the last element", []int{0, 1, 4, 2, 3}, nil, false},
		{"another element, another erased place", []int{5, 1, 4, 2, 2}, []int{1}, false},
	} {
		if code.Denies(c, x.w, x.erased, far) != x.is {
			t.Errorf("Denies of %s: %t", x.name, !x.is)
		}
	}
}

// P3.3: a pair is not far if E divides Q and makes of it the polynomial of a near word, also of 0.
func TestDeniesNear(t *testing.T) {
	c := firstPoints(7, 6, 2)
	for _, x := range []struct {
		w    []int
		q, e []int
	}{
		{[]int{1, 3, 5, 0, 2, 4}, []int{1, 2}, []int{1}},
		{[]int{1, 3, 5, 0, 0, 0}, []int{6, 3, 3, 2}, []int{6, 5, 1}},
		{[]int{0, 0, 0, 0, 0, 0}, nil, []int{1}},
		{[]int{0, 0, 0, 0, 0, 6}, nil, []int{2, 1}},
	} {
		if code.Denies(c, x.w, nil, code.Far{Q: x.q, E: x.e}) {
			t.Errorf("Denies(%v, %v, %v)", x.w, x.q, x.e)
		}
	}
}

// P3.3, P3.7: no pair of a large code denies a word that is near.
func TestDeniesLarge(t *testing.T) {
	r := newRandom()
	for _, c := range largeCodes() {
		f, n := fieldOf(c.Order), len(c.Points)
		for range 2 {
			erased := r.Perm(n)[:r.IntN(n-c.K+1)]
			w := anyList(r, c.Order, n)
			far, denied := code.Deny(c, w, erased)
			if !denied {
				continue
			}
			for range 5 {
				changed := code.Far{Q: slices.Clone(far.Q), E: slices.Clone(far.E)}
				if r.IntN(2) == 0 && len(changed.E) > 0 {
					changed.E[r.IntN(len(changed.E))] = r.IntN(c.Order)
				} else if len(changed.Q) > 0 {
					changed.Q[r.IntN(len(changed.Q))] = r.IntN(c.Order)
				}
				if is := isFar(f, c, w, erased, changed); code.Denies(c, w, erased, changed) != is {
					t.Errorf("Denies(%v, %v, %v, %v): %t", c, w, erased, changed, !is)
				}
			}
			by := []int{r.IntN(c.Order), 1}
			q, _ := f.Product(far.Q, by)
			e, _ := f.Product(far.E, by)
			longer := code.Far{Q: q, E: e}
			if is := isFar(f, c, w, erased, longer); code.Denies(c, w, erased, longer) != is {
				t.Errorf("Denies(%v, %v, %v, %v): %t", c, w, erased, longer, !is)
			}
		}
	}
}
