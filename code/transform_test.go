package code_test

import (
	"math"
	"math/big"
	"math/rand/v2"
	"slices"
	"testing"

	"dauber/api"
	"dauber/code"
	"dauber/tally"
)

// krawtchouk is P(j, i) of the chapter.
func krawtchouk(order, n, j, i int) *big.Int {
	total := big.NewInt(0)
	for s := range j + 1 {
		term := powerOf(int64(order-1), j-s)
		term.Mul(term, choose(i, s))
		term.Mul(term, choose(n-i, j-s))
		if s%2 == 1 {
			term.Neg(term)
		}
		total.Add(total, term)
	}
	return total
}

// transformed is the definition of Transform's result.
func transformed(order, dimension int, weights []tally.Int) []tally.Int {
	n := len(weights) - 1
	var result []tally.Int
	for j := range weights {
		total := big.NewInt(0)
		for i, w := range weights {
			term := krawtchouk(order, n, j, i)
			total.Add(total, term.Mul(term, toBig(w)))
		}
		divisor := powerOf(int64(order), dimension)
		result = append(result, ofBig(total.Div(total, divisor))) // rounded down, since the divisor is greater than 0
	}
	return result
}

// anyWeight is an integer of any sign and of at most that many bits.
func anyWeight(r *rand.Rand, bits int) tally.Int {
	n := new(big.Int)
	for range r.IntN(bits) {
		n.Lsh(n, 1)
		n.Or(n, big.NewInt(r.Int64N(2)))
	}
	if r.IntN(2) == 0 {
		n.Neg(n)
	}
	return ofBig(n)
}

// P3.5: Transform of any weights, of any length and dimension.
func TestTransform(t *testing.T) {
	r := newRandom()
	for _, order := range []int{2, 3, 4, 5, 7, 9, 256, 65521, 65536} {
		for _, n := range []int{0, 0, 1, 1, 2, 3, 4, 5, 8, 13} {
			for _, dimension := range []int{0, n, r.IntN(n + 1), n / 2} {
				weights := make([]tally.Int, n+1)
				for i := range weights {
					weights[i] = anyWeight(r, []int{4, 20, 1000}[r.IntN(3)])
				}
				got, e := code.Transform(order, dimension, weights)
				expectIntegers(t, "Transform", got, e, transformed(order, dimension, weights))
			}
		}
	}
}

// P3.5: Transform of each length from 1 to 65, with the largest weights.
func TestTransformLong(t *testing.T) {
	r := newRandom()
	most := ofBig(new(big.Int).Sub(powerOf(2, 1000), big.NewInt(1)))
	for n := range 65 {
		if n > 20 && n < 60 && n%8 > 0 {
			continue
		}
		weights := make([]tally.Int, n+1)
		for i := range weights {
			weights[i] = []tally.Int{most, most.Neg(), anyWeight(r, 1000)}[r.IntN(3)]
		}
		order := []int{2, 7, 65536}[r.IntN(3)]
		dimension := r.IntN(n + 1)
		got, e := code.Transform(order, dimension, weights)
		expectIntegers(t, "Transform", got, e, transformed(order, dimension, weights))
	}
}

// P3.5: the example of the chapter; the sums are rounded down, also below 0.
func TestTransformExamples(t *testing.T) {
	for _, x := range []struct {
		order, dimension int
		weights, want    []int64
	}{
		{2, 2, []int64{1, 0, 3, 0}, []int64{1, 0, 0, 1}},
		{2, 1, []int64{1, 0, 0, 1}, []int64{1, 0, 3, 0}},
		{7, 0, []int64{5}, []int64{5}},
		{7, 0, []int64{-5}, []int64{-5}},
		{7, 0, []int64{0}, []int64{0}},
		{2, 1, []int64{0, 1}, []int64{0, -1}},
		{2, 1, []int64{0, -1}, []int64{-1, 0}},
		{2, 1, []int64{0, 3}, []int64{1, -2}},
		{2, 0, []int64{0, 3}, []int64{3, -3}},
		{3, 1, []int64{4, 0}, []int64{1, 2}},
		{3, 1, []int64{-4, 0}, []int64{-2, -3}},
		{3, 1, []int64{-3, 0}, []int64{-1, -2}},
		{65536, 1, []int64{1, 0}, []int64{0, 0}},
		{65536, 1, []int64{-1, 0}, []int64{-1, -1}},
		{65536, 0, []int64{1, 0}, []int64{1, 65535}},
	} {
		got, e := code.Transform(x.order, x.dimension, integers(x.weights...))
		expectIntegers(t, "Transform", got, e, integers(x.want...))
	}
}

// P3.5: the errors of Transform, in their order.
func TestTransformErrors(t *testing.T) {
	limit := ofBig(powerOf(2, 1000))
	most := ofBig(new(big.Int).Sub(powerOf(2, 1000), big.NewInt(1)))
	larger := ofBig(powerOf(2, 39999))
	of := func(n int, last tally.Int) []tally.Int {
		weights := make([]tally.Int, n)
		weights[n-1] = last
		return weights
	}
	for _, x := range []struct {
		name      string
		dimension int
		weights   []tally.Int
		e         api.Errno
	}{
		{"one weight", 0, of(1, most), api.OK},
		{"65 weights", 64, of(65, most), api.OK},
		{"65 weights, the dimension 0", 0, of(65, most.Neg()), api.OK},
		{"no weights", 0, nil, api.ErrArg},
		{"no weights, the dimension -1", -1, []tally.Int{}, api.ErrArg},
		{"66 weights", 0, make([]tally.Int, 66), api.ErrArg},
		{"66 weights, the dimension 65", 65, make([]tally.Int, 66), api.ErrArg},
		{"1000 weights", 3, make([]tally.Int, 1000), api.ErrArg},
		{"2^1000", 0, of(1, limit), api.ErrArg},
		{"-2^1000", 0, of(1, limit.Neg()), api.ErrArg},
		{"2^1000, the last one", 2, of(65, limit), api.ErrArg},
		{"-2^1000, the last one", 2, of(65, limit.Neg()), api.ErrArg},
		{"2^1000, the first one", 1, append(of(1, limit), tally.Of(1)), api.ErrArg},
		{"2^39999", 1, of(3, larger), api.ErrArg},
		{"-2^39999", 1, of(3, larger.Neg()), api.ErrArg},
		{"the dimension -1", -1, of(3, most), api.ErrArg},
		{"the dimension 3 of 3 weights", 3, of(3, most), api.ErrArg},
		{"the dimension 1 of one weight", 1, of(1, most), api.ErrArg},
		{"the dimension 65", 65, of(65, most), api.ErrArg},
		{"the greatest dimension", math.MaxInt, of(3, most), api.ErrArg},
		{"the least dimension", math.MinInt, of(3, most), api.ErrArg},
	} {
		for _, order := range []int{2, 9, 65536} {
			got, e := code.Transform(order, x.dimension, x.weights)
			if x.e != api.OK {
				expectError(t, "Transform of "+x.name, e, x.e, got)
			} else if e != api.OK || len(got) != len(x.weights) {
				t.Errorf("Transform of %s: %v, %d", x.name, got, e)
			}
		}
		for _, order := range noOrders() {
			got, e := code.Transform(order, x.dimension, x.weights)
			expectError(t, "Transform of no field", e, api.ErrField, got)
		}
	}
}

// singleton is the definition of Singleton's result.
func singleton(order, n, k int) []tally.Int {
	d := n - k + 1
	result := make([]tally.Int, n+1)
	result[0] = tally.Of(1)
	for w := d; w <= n; w++ {
		total := big.NewInt(0)
		for j := range w - d + 1 {
			term := powerOf(int64(order), w-d+1-j)
			term.Sub(term, big.NewInt(1))
			term.Mul(term, choose(w, j))
			if j%2 == 1 {
				term.Neg(term)
			}
			total.Add(total, term)
		}
		result[w] = ofBig(total.Mul(total, choose(n, w)))
	}
	return result
}

// P3.5: Singleton; its numbers add up to order^k.
func TestSingleton(t *testing.T) {
	for _, order := range []int{2, 3, 4, 5, 8, 27, 64, 257, 65521, 65536} {
		for _, n := range []int{1, 2, 3, 4, 5, 9, 20, 63, 64} {
			for k := 1; k <= n; k++ {
				if n > 9 && k > 2 && k < n-2 && k%9 > 0 {
					continue
				}
				got, e := code.Singleton(order, n, k)
				expectIntegers(t, "Singleton", got, e, singleton(order, n, k))
				total := big.NewInt(0)
				for _, w := range got {
					total.Add(total, toBig(w))
				}
				if total.Cmp(powerOf(int64(order), k)) != 0 {
					t.Errorf("Singleton(%d, %d, %d): %v", order, n, k, got)
				}
			}
		}
	}
	got, e := code.Singleton(5, 4, 2)
	expectIntegers(t, "Singleton", got, e, integers(1, 0, 0, 16, 8))
	got, e = code.Singleton(2, 1, 1)
	expectIntegers(t, "Singleton", got, e, integers(1, 1))
	got, e = code.Singleton(2, 4, 2) // there is no such code
	expectIntegers(t, "Singleton", got, e, integers(1, 0, 0, 4, -1))
}

// P3.5: the errors of Singleton, in their order.
func TestSingletonErrors(t *testing.T) {
	for _, x := range [][2]int{{0, 0}, {0, 1}, {1, 0}, {1, 2}, {4, 0}, {4, -1}, {4, 5}, {64, 0}, {64, 65}, {65, 1}, {65, 64}, {65, 65}, {65, 66}, {-1, -1}, {-3, 1}, {math.MaxInt, 1}, {math.MaxInt, math.MaxInt}, {math.MinInt, 1}, {4, math.MinInt}, {4, math.MaxInt}, {math.MinInt, math.MinInt}} {
		got, e := code.Singleton(7, x[0], x[1])
		expectError(t, "Singleton", e, api.ErrArg, got)
	}
	for _, order := range noOrders() {
		for _, x := range [][2]int{{4, 2}, {65, 2}, {4, 0}} {
			got, e := code.Singleton(order, x[0], x[1])
			expectError(t, "Singleton of no field", e, api.ErrField, got)
		}
	}
}

// P3.10: the weights of a code of Reed and Solomon are Singleton's.
func TestReedSolomonWeights(t *testing.T) {
	r := newRandom()
	codes := slices.Concat(smallCodes(), []code.Code{anyCode(r, 7, 7, 5), anyCode(r, 8, 8, 4), anyCode(r, 9, 7, 4), anyCode(r, 16, 13, 3), anyCode(r, 64, 64, 2), anyCode(r, 251, 40, 2), anyCode(r, 65536, 64, 1), anyCode(r, 59049, 20, 1)})
	for _, c := range codes {
		var rows [][]int
		for _, message := range unit(c.K, c.K) {
			w, _ := code.Encode(c, message)
			rows = append(rows, w)
		}
		want, e := code.Singleton(c.Order, len(c.Points), c.K)
		if e != api.OK {
			t.Errorf("Singleton of %v: %d", c, e)
		}
		got, e := code.Weights(c.Order, rows)
		expectIntegers(t, "Weights", got, e, want)
		dual, e := code.Transform(c.Order, c.K, got)
		if c.K < len(c.Points) {
			want, _ = code.Singleton(c.Order, len(c.Points), len(c.Points)-c.K)
			expectIntegers(t, "Transform", dual, e, want)
		}
	}
}
