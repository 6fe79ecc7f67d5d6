package tally_test

import (
	"math"
	"math/big"
	"testing"

	"dauber/api"
	"dauber/tally"
)

// P1.3: Choose.
func TestChoose(t *testing.T) {
	for _, n := range []int{0, 1, 2, 3, 10, 63, 64, 67, 68, 90, 500, 999, 1000} {
		for k := -2; k <= n+2; k++ {
			want := new(big.Int)
			if k >= 0 {
				want.Binomial(int64(n), int64(k))
			}
			got, e := tally.Choose(n, k)
			expectInt(t, "Choose", got, e, want.String())
		}
		for _, k := range []int{math.MinInt, math.MaxInt, -1000, n + 1000} {
			got, e := tally.Choose(n, k)
			expectInt(t, "Choose", got, e, "0")
		}
	}
	for _, n := range []int{-1, 1001, math.MinInt, math.MaxInt} {
		for _, k := range []int{-1, 0, 1, n, math.MinInt, math.MaxInt} {
			got, e := tally.Choose(n, k)
			expectError(t, "Choose", got, e, api.ErrArg)
		}
	}
}

// P1.3: Factorial.
func TestFactorial(t *testing.T) {
	want := big.NewInt(1)
	for n := range 1001 {
		if n > 0 {
			want.Mul(want, big.NewInt(int64(n)))
		}
		got, e := tally.Factorial(n)
		expectInt(t, "Factorial", got, e, want.String())
	}
	for _, n := range []int{-1, 1001, math.MinInt, math.MaxInt} {
		got, e := tally.Factorial(n)
		expectError(t, "Factorial", got, e, api.ErrArg)
	}
}

// P1.6: Pascal's rule, the sum of a row, and factorials.
func TestPascal(t *testing.T) {
	for _, n := range []int{0, 1, 2, 5, 33, 34, 90, 200, 999} {
		total := tally.Of(0)
		for k := -1; k <= n; k++ {
			c := must(tally.Choose(n, k))
			total = must(total.Add(c))
			if must(c.Add(must(tally.Choose(n, k+1)))).Cmp(must(tally.Choose(n+1, k+1))) != 0 {
				t.Errorf("C(%d, %d) + C(%d, %d)", n, k, n, k+1)
			}
			if k < 0 {
				continue
			}
			product := must(c.Mul(must(tally.Factorial(k))))
			product = must(product.Mul(must(tally.Factorial(n - k))))
			if product.Cmp(must(tally.Factorial(n))) != 0 {
				t.Errorf("C(%d, %d) k! (n - k)!: %s", n, k, product)
			}
		}
		power, e := tally.Of(2).Pow(n)
		expectInt(t, "2^n", power, e, total.String())
	}
}
