package cover

import (
	"iter"
	"math/bits"
)

// set is a set of numbers from 0 to 63, with a bit for each of them.
type set uint64

const maxNumbers = 64

// only returns the set of one number.
func only(x int) set {
	return 1 << x
}

// readSet returns the numbers of a list; or false if one is not from 0 to limit - 1, or occurs twice.
func readSet(list []int, limit int) (set, bool) {
	var s set
	for _, x := range list {
		if x < 0 || x >= limit || s.has(x) {
			return 0, false
		}
		s |= only(x)
	}
	return s, true
}

func (s set) has(x int) bool {
	return s&only(x) != 0
}

// numbers yields the numbers of the set, rising.
func (s set) numbers() iter.Seq[int] {
	return func(yield func(int) bool) {
		for ; s != 0; s &= s - 1 {
			if !yield(bits.TrailingZeros64(uint64(s))) {
				return
			}
		}
	}
}
