package tally

import "math/bits"

// steps is what some steps of Euclid's algorithm do: they lead from (a, b) to (b0 b - a0 a, a1 a - b1 b), or, if negated, to the negatives of both.
type steps struct {
	a0, b0, a1, b1 uint64
	negated        bool
}

// gcd is Lehmer's: it foresees many steps of Euclid's algorithm from the first words of both numbers, and takes them at once.
func gcd(a, b []uint64) []uint64 {
	if compare(a, b) < 0 {
		a, b = b, a
	}
	for len(b) > 1 {
		if s := foresee(leadingWords(a, b)); s.b0 != 0 {
			a, b = s.take(a, b)
			continue
		}
		_, rest := divide(a, b)
		a, b = b, rest
	}
	if len(b) == 0 {
		return copied(a)
	}
	_, rest := divideByWord(a, b[0])
	return oneWord(gcdOfWords(b[0], rest))
}

func gcdOfWords(a, b uint64) uint64 {
	for b != 0 {
		a, b = b, a%b
	}
	return a
}

// leadingWords returns the first 64 bits of a, and the bits of b at the same places; a is at least b, and has at least two words.
func leadingWords(a, b []uint64) (first, second uint64) {
	n := len(a)
	shift := bits.LeadingZeros64(a[n-1])
	first = a[n-1]<<shift | a[n-2]>>(wordBits-shift)
	second = wordAt(b, n-1)<<shift | wordAt(b, n-2)>>(wordBits-shift)
	return first, second
}

// foresee returns steps that are right for all numbers that begin with these words. Collins's condition tells when the words no longer determine the next quotient; the last quotient before that is not relied on.
func foresee(first, second uint64) steps {
	s := steps{a1: 1}
	var nextA, nextB uint64 = 0, 1
	for second >= nextB && first-second >= s.b1+nextB {
		quotient := first / second
		first, second = second, first%second
		s.a0, s.a1, nextA = s.a1, nextA, s.a1+quotient*nextA
		s.b0, s.b1, nextB = s.b1, nextB, s.b1+quotient*nextB
		s.negated = !s.negated
	}
	return s
}

func (s steps) take(a, b []uint64) (nextA, nextB []uint64) {
	if s.negated {
		return multiplesApart(a, s.a0, b, s.b0), multiplesApart(b, s.b1, a, s.a1)
	}
	return multiplesApart(b, s.b0, a, s.a0), multiplesApart(a, s.a1, b, s.b1)
}

// multiplesApart returns a x - b y, which is at least 0 and has no more words than the longer one of a and b.
func multiplesApart(a []uint64, x uint64, b []uint64, y uint64) []uint64 {
	result := make([]uint64, max(len(a), len(b)))
	var carryA, carryB, lowA, lowB, borrow uint64
	for i := range result {
		carryA, lowA = multiplyAdd(wordAt(a, i), x, carryA)
		carryB, lowB = multiplyAdd(wordAt(b, i), y, carryB)
		result[i], borrow = bits.Sub64(lowA, lowB, borrow)
	}
	return cut(result)
}
