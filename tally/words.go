package tally

import (
	"cmp"
	"math/bits"
	"slices"
)

// A number that is at least 0 is a slice of words, the least significant one first and the last one not 0; 0 has no words.
// Only scale, addMultiple, addBack and takeMultiple change a slice that they are given.

const wordBits = 64

// cut removes the words at the end that are 0. The capacity of what it returns is its length, so that appending to one number never writes into another.
func cut(words []uint64) []uint64 {
	n := len(words)
	for n > 0 && words[n-1] == 0 {
		n--
	}
	if n == 0 {
		return nil
	}
	return words[:n:n]
}

func copied(words []uint64) []uint64 {
	return cut(slices.Clone(words))
}

func oneWord(word uint64) []uint64 {
	return cut([]uint64{word})
}

// wordAt returns the word at a place, which may be beyond the last one.
func wordAt(words []uint64, place int) uint64 {
	if place < len(words) {
		return words[place]
	}
	return 0
}

// compare returns the sign of a - b. The words may be digits of any base.
func compare[W cmp.Ordered](a, b []W) int {
	if c := cmp.Compare(len(a), len(b)); c != 0 {
		return c
	}
	for i := len(a) - 1; i >= 0; i-- {
		if c := cmp.Compare(a[i], b[i]); c != 0 {
			return c
		}
	}
	return 0
}

func bitLength(a []uint64) int {
	if len(a) == 0 {
		return 0
	}
	return len(a)*wordBits - bits.LeadingZeros64(a[len(a)-1])
}

func sum(a, b []uint64) []uint64 {
	if len(a) < len(b) {
		a, b = b, a
	}
	result := make([]uint64, len(a)+1)
	var carry uint64
	for i, word := range a {
		result[i], carry = bits.Add64(word, wordAt(b, i), carry)
	}
	result[len(a)] = carry
	return cut(result)
}

// difference returns a - b, which is at least 0.
func difference(a, b []uint64) []uint64 {
	result := make([]uint64, len(a))
	var borrow uint64
	for i, word := range a {
		result[i], borrow = bits.Sub64(word, wordAt(b, i), borrow)
	}
	return cut(result)
}

func product(a, b []uint64) []uint64 {
	result := make([]uint64, len(a)+len(b))
	for i, word := range b {
		result[i+len(a)] = addMultiple(result[i:i+len(a)], a, word)
	}
	return cut(result)
}

// addMultiple adds a times factor to total, which has as many words as a, and returns the carry.
func addMultiple(total, a []uint64, factor uint64) uint64 {
	var carry uint64
	for i, word := range a {
		high, low := multiplyAdd(word, factor, carry)
		var c uint64
		total[i], c = bits.Add64(total[i], low, 0)
		carry = high + c
	}
	return carry
}

// multiplyAdd returns a b + c, in two words.
func multiplyAdd(a, b, c uint64) (high, low uint64) {
	high, low = bits.Mul64(a, b)
	low, carry := bits.Add64(low, c, 0)
	return high + carry, low
}

// scale changes words into words times factor, plus summand, and returns them, longer by a word if need be.
func scale(words []uint64, factor, summand uint64) []uint64 {
	carry := summand
	for i, word := range words {
		carry, words[i] = multiplyAdd(word, factor, carry)
	}
	if carry == 0 {
		return words
	}
	return append(words, carry)
}

func shiftLeft(a []uint64, count int) []uint64 {
	whole, part := count/wordBits, count%wordBits
	result := make([]uint64, len(a)+whole+1)
	for i, word := range a {
		result[i+whole] |= word << part
		result[i+whole+1] = word >> (wordBits - part)
	}
	return cut(result)
}

func shiftRight(a []uint64, count int) []uint64 {
	whole, part := count/wordBits, count%wordBits
	if whole >= len(a) {
		return nil
	}
	result := make([]uint64, len(a)-whole)
	for i := range result {
		result[i] = a[i+whole]>>part | wordAt(a, i+whole+1)<<(wordBits-part)
	}
	return cut(result)
}

// divide returns the quotient and the rest of a divided by b, which is not 0.
func divide(a, b []uint64) (quotient, rest []uint64) {
	if compare(a, b) < 0 {
		return nil, copied(a)
	}
	if len(b) == 1 {
		quotient, word := divideByWord(a, b[0])
		return quotient, oneWord(word)
	}
	shift := bits.LeadingZeros64(b[len(b)-1])
	divisor := shiftLeft(b, shift)
	left := make([]uint64, len(a)+1)
	copy(left, shiftLeft(a, shift))
	quotient = make([]uint64, len(a)-len(b)+1)
	for i := len(quotient) - 1; i >= 0; i-- {
		quotient[i] = takeMultiple(left[i:i+len(b)+1], divisor)
	}
	return cut(quotient), shiftRight(cut(left), shift)
}

func divideByWord(a []uint64, b uint64) (quotient []uint64, rest uint64) {
	quotient = make([]uint64, len(a))
	for i := len(a) - 1; i >= 0; i-- {
		quotient[i], rest = bits.Div64(rest, a[i], b)
	}
	return cut(quotient), rest
}

// takeMultiple divides left by divisor, leaves the rest in left and returns the quotient, which is one word.
// The first bit of divisor is 1; left is longer by a word, and without its least significant word it is less than divisor.
func takeMultiple(left, divisor []uint64) uint64 {
	quotient := estimate(left, divisor)
	var carry, borrow uint64
	for i, word := range divisor {
		high, low := multiplyAdd(word, quotient, carry)
		left[i], borrow = bits.Sub64(left[i], low, 0)
		carry = high + borrow
	}
	last := len(divisor)
	left[last], borrow = bits.Sub64(left[last], carry, 0)
	if borrow == 0 {
		return quotient
	}
	addBack(left, divisor)
	return quotient - 1
}

// estimate returns the quotient of left by divisor, or one more: it divides three words by two.
func estimate(left, divisor []uint64) uint64 {
	n := len(divisor)
	first, second := divisor[n-1], divisor[n-2]
	if left[n] >= first {
		return 1<<wordBits - 1
	}
	quotient, rest := bits.Div64(left[n], left[n-1], first)
	for {
		high, low := bits.Mul64(quotient, second)
		if high < rest || high == rest && low <= left[n-2] {
			return quotient
		}
		quotient--
		var carry uint64
		rest, carry = bits.Add64(rest, first, 0)
		if carry != 0 {
			return quotient
		}
	}
}

// addBack adds divisor to left, which is longer by a word, and drops the carry: it settles the borrow of a quotient that was too large by one.
func addBack(left, divisor []uint64) {
	var carry uint64
	for i, word := range divisor {
		left[i], carry = bits.Add64(left[i], word, carry)
	}
	left[len(divisor)] += carry
}
