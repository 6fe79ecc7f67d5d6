package code

import (
	"dauber/api"
	"dauber/tally"
)

const maxWeightBits = 1000

// The integers here have far less than api.MaxBits bits: no sum, product or power is ErrSize.

func add(a, b tally.Int) tally.Int {
	result, _ := a.Add(b)
	return result
}

func multiply(a, b tally.Int) tally.Int {
	result, _ := a.Mul(b)
	return result
}

func power(a, n int) tally.Int {
	result, _ := tally.Of(int64(a)).Pow(n)
	return result
}

func choose(n, k int) tally.Int {
	result, _ := tally.Choose(n, k)
	return result
}

// areSmall reports whether all weights are less than 2^1000 in absolute value.
func areSmall(weights []tally.Int) bool {
	limit := power(2, maxWeightBits)
	for _, w := range weights {
		if w.Cmp(limit) >= 0 || w.Neg().Cmp(limit) >= 0 {
			return false
		}
	}
	return true
}

// timesLinear returns the coefficients of p times 1 + c z.
func timesLinear(p []tally.Int, c int) []tally.Int {
	result := make([]tally.Int, len(p)+1)
	copy(result, p)
	for i, a := range p {
		result[i+1] = add(result[i+1], multiply(a, tally.Of(int64(c))))
	}
	return result
}

// Transform returns the weights of the dual of a linear code of that dimension with these weights (MacWilliams); ErrField; or ErrArg.
func Transform(order, dimension int, weights []tally.Int) ([]tally.Int, api.Errno) {
	if e := checkOrder(order); e != api.OK {
		return nil, e
	}
	n := len(weights) - 1
	if n < 0 || n > maxPlaces || dimension < 0 || dimension > n || !areSmall(weights) {
		return nil, api.ErrArg
	}
	// P(j, i) is the coefficient of z^j in (1 - z)^i (1 + (order - 1) z)^(n - i). The weights' sum of these is made by Horner's rule, from the last weight on.
	var sums []tally.Int
	others := []tally.Int{tally.Of(1)}
	for i := n; i >= 0; i-- {
		sums = timesLinear(sums, -1)
		for j, a := range others {
			sums[j] = add(sums[j], multiply(weights[i], a))
		}
		others = timesLinear(others, order-1)
	}
	words := power(order, dimension)
	for j, sum := range sums {
		sums[j], _, _ = sum.Div(words)
	}
	return sums, api.OK
}

// Singleton returns the weights of a code with n places and order^k words any two of which differ in at least n - k + 1 places; ErrField; or ErrArg.
func Singleton(order, n, k int) ([]tally.Int, api.Errno) {
	if e := checkOrder(order); e != api.OK {
		return nil, e
	}
	if k < 1 || k > n || n > maxPlaces {
		return nil, api.ErrArg
	}
	least := n - k + 1
	weights := make([]tally.Int, n+1)
	weights[0] = tally.Of(1)
	for w := least; w <= n; w++ {
		weights[w] = multiply(choose(n, w), fullWords(order, w, least))
	}
	return weights, api.OK
}

// fullWords returns in how many words of such a code just w given places are not 0, w being at least the least distance: by inclusion and exclusion of the places that are 0.
func fullWords(order, w, least int) tally.Int {
	var total tally.Int
	for j := range w - least + 1 {
		words := add(power(order, w-least+1-j), tally.Of(-1))
		term := multiply(choose(w, j), words)
		if j%2 == 1 {
			term = term.Neg()
		}
		total = add(total, term)
	}
	return total
}
