package tally

import "dauber/api"

const maxCount = 1000

// Choose returns the number of subsets with k elements of a set with n elements, or ErrArg if n is not from 0 to 1000.
func Choose(n, k int) (Int, api.Errno) {
	if n < 0 || n > maxCount {
		return Int{}, api.ErrArg
	}
	if k < 0 || k > n {
		return Int{}, api.OK
	}
	k = min(k, n-k)
	words := oneWord(1)
	for i := range k {
		// What is left after i + 1 rounds is C(n, i + 1): no division has a rest.
		words, _ = divideByWord(scale(words, uint64(n-i), 0), uint64(i+1))
	}
	return signed(false, words), api.OK
}

// Factorial returns the product of the numbers from 1 to n, or ErrArg if n is not from 0 to 1000.
func Factorial(n int) (Int, api.Errno) {
	if n < 0 || n > maxCount {
		return Int{}, api.ErrArg
	}
	words := oneWord(1)
	for i := range n {
		words = scale(words, uint64(i+1), 0)
	}
	return signed(false, cut(words)), api.OK
}
