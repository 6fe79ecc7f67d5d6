package perm_test

import (
	"fmt"
	"math"
	"slices"
	"testing"

	"dauber/api"
	"dauber/perm"
)

// spelled is the definition: it returns the last permutation that a program makes, and whether it makes one.
func spelled(n int, generators, word [][]int) ([]int, bool) {
	list := slices.Clone(generators)
	for _, step := range word {
		a, b := step[0], step[1]
		if a < 0 || a >= len(list) || b < -1 || b >= len(list) {
			return nil, false
		}
		if b == -1 {
			list = append(list, inverse(list[a]))
		} else {
			list = append(list, product(list[a], list[b]))
		}
	}
	if len(list) == 0 {
		return identity(n), true
	}
	return list[len(list)-1], true
}

func asLists(word [][2]int) [][]int {
	var lists [][]int
	for _, step := range word {
		lists = append(lists, step[:])
	}
	return lists
}

// expectWord checks that Word of an element is one for it.
func expectWord(t *testing.T, g *perm.Group, generators [][]int, p []int) {
	t.Helper()
	word, e := g.Word(p)
	q, is := spelled(len(p), generators, asLists(word))
	if e != api.OK || !is || !slices.Equal(p, q) || len(word) > 20000 {
		t.Errorf("Word(%v) of %v: %d steps make %v, %d", p, generators, len(word), q, e)
	}
	if !g.Spells(word, p) {
		t.Errorf("%v: Spells denies the word for %v", generators, p)
	}
}

// P4.4: words for all elements of small groups, and none for others.
func TestWords(t *testing.T) {
	for n, generators := range small(newRandom()) {
		g := newGroup(t, n, generators...)
		elements := elementsOf(n, generators)
		for _, p := range elements {
			expectWord(t, g, generators, p)
		}
		for _, p := range permutations(min(n, 5)) {
			if len(p) == n && !has(elements, p) {
				word, e := g.Word(p)
				expectError(t, fmt.Sprint("Word of no element", p), e, api.ErrNone, word)
			}
		}
	}
}

// P4.4: words of large groups, of generators in any order, among them the identity and some twice.
func TestLargeWords(t *testing.T) {
	r := newRandom()
	for _, x := range large() {
		for range 2 {
			generators := slices.Clone(x.generators)
			for len(generators) > 0 && len(generators) < 12 && r.IntN(3) > 0 {
				generators = append(generators, [][]int{identity(x.n), generators[0], product(generators[0], generators[len(generators)-1])}[r.IntN(3)])
			}
			r.Shuffle(len(generators), func(i, j int) { generators[i], generators[j] = generators[j], generators[i] })
			g := newGroup(t, x.n, generators...)
			expectWord(t, g, generators, identity(x.n))
			for _, p := range generators {
				expectWord(t, g, generators, p)
				expectWord(t, g, generators, inverse(p))
			}
			for range 20 {
				p, _ := g.Element(r.Int64N(g.Order()))
				expectWord(t, g, generators, p)
			}
		}
	}
}

// P4.4: words stay short, of generators that do little each and of many random ones.
func TestLongWords(t *testing.T) {
	r := newRandom()
	for round := range 300 {
		var generators [][]int
		for range 1 + r.IntN(16) {
			p := r.Perm(20)
			if round%3 > 0 {
				p = product(swapped(20, r.IntN(20), r.IntN(20)), swapped(20, r.IntN(20), r.IntN(20)))
			}
			generators = append(generators, p)
		}
		g := newGroup(t, 20, generators...)
		p, _ := g.Element(r.Int64N(g.Order()))
		expectWord(t, g, generators, p)
		if len(g.Strong()) > 400 {
			t.Errorf("%d strong elements", len(g.Strong()))
		}
	}
}

// P4.5: words of groups that Fixing and Derived return go by their own generators.
func TestWordsOfSubgroups(t *testing.T) {
	r := newRandom()
	for _, x := range large() {
		g := newGroup(t, x.n, x.generators...)
		fixing, _ := g.Fixing(r.IntN(x.n))
		for _, h := range []*perm.Group{fixing, g.Derived(), g.Derived().Derived(), fixing.Derived()} {
			for _, k := range []int64{0, h.Order() - 1, r.Int64N(h.Order()), r.Int64N(h.Order())} {
				p, _ := h.Element(k)
				word, e := h.Word(p)
				if e != api.OK || len(word) > 20000 || !h.Spells(word, p) {
					t.Errorf("%s: Word(%v): %d steps, %d", x.name, p, len(word), e)
				}
				for _, q := range [][]int{product(p, swapped(x.n, 0, x.n-1)), identity(x.n)} {
					if !slices.Equal(p, q) && h.Spells(word, q) {
						t.Errorf("%s: the word for %v spells %v", x.name, p, q)
					}
				}
			}
		}
	}
}

// P4.4: Spells of programs, some of which have a number that is not there by then.
func TestSpells(t *testing.T) {
	r := newRandom()
	good := 0
	for range 6000 {
		n := 1 + r.IntN(4)
		generators := some(r, n, r.IntN(4))
		g := newGroup(t, n, generators...)
		word := make([][2]int, r.IntN(7))
		for i := range word {
			word[i] = [2]int{r.IntN(len(generators) + i + 1), r.IntN(len(generators)+i+2) - 1}
			if r.IntN(3) > 0 {
				word[i] = [2]int{r.IntN(len(generators) + i + 1), r.IntN(len(generators)+i+1) - 1}
			}
			if r.IntN(40) == 0 {
				word[i][r.IntN(2)] = []int{-1, -2, 1 << 32, math.MinInt, math.MaxInt, len(generators) + i}[r.IntN(6)]
			}
		}
		q, is := spelled(n, generators, asLists(word))
		if is {
			good++
		}
		for _, p := range permutations(n) {
			if g.Spells(word, p) != (is && slices.Equal(p, q)) {
				t.Errorf("%v, %v: Spells(%v): %v", generators, word, p, g.Spells(word, p))
			}
		}
	}
	if good < 1500 {
		t.Errorf("only %d programs are valid", good)
	}
}

// P4.4: the cases that the definitions name: empty programs, the last permutation and no other, numbers that are out of range.
func TestSpellsEdges(t *testing.T) {
	none := newGroup(t, 3)
	square := newGroup(t, 4, []int{1, 2, 3, 0}, []int{3, 2, 1, 0})
	for _, x := range []struct {
		g    *perm.Group
		word [][2]int
		p    []int
		want bool
	}{
		{none, nil, identity(3), true},
		{none, [][2]int{}, identity(3), true},
		{none, nil, []int{1, 0, 2}, false},
		{none, nil, identity(2), false},
		{none, nil, identity(4), false},
		{none, nil, nil, false},
		{none, [][2]int{{0, -1}}, identity(3), false},
		{none, [][2]int{{-1, -1}}, identity(3), false},
		{none, [][2]int{{0, 0}}, identity(3), false},
		{square, nil, []int{3, 2, 1, 0}, true},
		{square, nil, []int{1, 2, 3, 0}, false},
		{square, nil, identity(4), false},
		{square, [][2]int{{0, -1}}, []int{3, 0, 1, 2}, true},
		{square, [][2]int{{0, -1}, {2, -1}}, []int{1, 2, 3, 0}, true},
		{square, [][2]int{{0, -1}, {2, -1}}, []int{3, 0, 1, 2}, false},
		{square, [][2]int{{0, 1}}, []int{2, 1, 0, 3}, true},
		{square, [][2]int{{1, 0}}, []int{0, 3, 2, 1}, true},
		{square, [][2]int{{0, 1}, {2, 2}}, identity(4), true},
		{square, [][2]int{{0, 2}}, []int{2, 1, 0, 3}, false},
		{square, [][2]int{{2, 0}}, []int{2, 1, 0, 3}, false},
		{square, [][2]int{{2, -1}}, []int{3, 2, 1, 0}, false},
		{square, [][2]int{{0, -2}}, []int{3, 0, 1, 2}, false},
		{square, [][2]int{{-1, -1}, {0, -1}}, []int{3, 0, 1, 2}, false},
		{square, [][2]int{{0, math.MaxInt}, {0, -1}}, []int{3, 0, 1, 2}, false},
		{square, [][2]int{{math.MinInt, 0}, {0, -1}}, []int{3, 0, 1, 2}, false},
		{square, [][2]int{{0, math.MinInt}, {0, -1}}, []int{3, 0, 1, 2}, false},
		{square, [][2]int{{0, -1}, {4, 0}, {0, -1}}, []int{3, 0, 1, 2}, false},
	} {
		if got := x.g.Spells(x.word, x.p); got != x.want {
			t.Errorf("Spells(%v, %v): %v", x.word, x.p, got)
		}
	}
	long := slices.Repeat([][2]int{{0, -1}}, 100001)
	if !square.Spells(long, []int{3, 0, 1, 2}) || square.Spells(append(long, [2]int{100004, 0}), []int{3, 0, 1, 2}) {
		t.Error("a long program")
	}
	for _, p := range notPermutations() {
		if square.Spells(nil, p) || none.Spells(nil, p) {
			t.Errorf("a word for %v", p[:min(len(p), 30)])
		}
	}
}
