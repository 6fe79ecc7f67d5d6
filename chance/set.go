package chance

import (
	"iter"
	"math/bits"
)

// set is a set of numbers from 0 to 127, with a bit for each of them.
type set [2]uint64

// readSet returns the numbers of a card; or false if it has none, one that is not from 1 to n, or one twice.
func readSet(n int, card []int) (set, bool) {
	var s set
	for _, x := range card {
		if x < 1 || x > n {
			return set{}, false
		}
		word, bit := x/64, uint64(1)<<(x%64)
		if s[word]&bit != 0 {
			return set{}, false
		}
		s[word] |= bit
	}
	return s, len(card) > 0
}

func (s set) with(other set) set {
	return set{s[0] | other[0], s[1] | other[1]}
}

func (s set) without(other set) set {
	return set{s[0] &^ other[0], s[1] &^ other[1]}
}

func (s set) size() int {
	return bits.OnesCount64(s[0]) + bits.OnesCount64(s[1])
}

// unions yields the union of each subset of the sets: first of that without sets, then always of one with a set more, or less, than before (Gray's order), so that subsets of even and odd sizes alternate.
func unions(sets []set) iter.Seq[set] {
	return func(yield func(set) bool) {
		for n := range 1 << len(sets) {
			chosen := n ^ n>>1
			var union set
			for i, s := range sets {
				if chosen>>i&1 == 1 {
					union = union.with(s)
				}
			}
			if !yield(union) {
				return
			}
		}
	}
}
