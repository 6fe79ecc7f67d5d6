package field_test

import (
	"math/rand/v2"
	"reflect"
	"slices"
	"testing"

	"dauber/api"
	"dauber/field"
)

// The tests compare the package with an oracle that calculates by the definitions, with digits.

// oracle is a field without tables.
type oracle struct {
	q, p, k int
	modulus []int
}

func toDigits(number, base int) []int {
	var list []int
	for ; number > 0; number /= base {
		list = append(list, number%base)
	}
	return list
}

func fromDigits(list []int, base int) int {
	number := 0
	for _, d := range slices.Backward(list) {
		number = number*base + d
	}
	return number
}

// digitProduct multiplies polynomials with coefficients modulo p.
func digitProduct(a, b []int, p int) []int {
	if len(a) == 0 || len(b) == 0 {
		return nil
	}
	result := make([]int, len(a)+len(b)-1)
	for i := range a {
		for j := range b {
			result[i+j] = (result[i+j] + a[i]*b[j]) % p
		}
	}
	return result
}

// leastDivisor returns the least divisor of n that is greater than 1.
func leastDivisor(n int) int {
	for d := 2; d*d <= n; d++ {
		if n%d == 0 {
			return d
		}
	}
	return n
}

var oracles = map[int]oracle{}

func oracleOf(q int) oracle {
	if _, known := oracles[q]; !known {
		oracles[q] = newOracle(q)
	}
	return oracles[q]
}

// newOracle finds the modulus by multiplying all pairs of monic polynomials of lesser degree.
func newOracle(q int) oracle {
	o := oracle{q: q, p: leastDivisor(q)}
	for n := q; n > 1; n /= o.p {
		o.k++
	}
	isProduct := make([]bool, 2*q)
	for first := o.p; first < q; first *= o.p {
		for a := first; a < 2*first; a++ {
			for b := q / first; b < 2*q/first; b++ {
				isProduct[fromDigits(digitProduct(toDigits(a, o.p), toDigits(b, o.p), o.p), o.p)] = true
			}
		}
	}
	number := q
	for isProduct[number] {
		number++
	}
	o.modulus = toDigits(number, o.p)
	return o
}

func (o oracle) add(a, b int) int {
	result := 0
	for unit := 1; unit < o.q; unit *= o.p {
		result += (a/unit + b/unit) % o.p * unit
	}
	return result
}

func (o oracle) negate(a int) int {
	result := 0
	for unit := 1; unit < o.q; unit *= o.p {
		result += (o.p - a/unit%o.p) % o.p * unit
	}
	return result
}

func (o oracle) multiply(a, b int) int {
	product := digitProduct(toDigits(a, o.p), toDigits(b, o.p), o.p)
	for i := len(product) - 1; i >= o.k; i-- {
		top := product[i]
		for j, m := range o.modulus {
			product[i-o.k+j] = (product[i-o.k+j] + (o.p-top)*m) % o.p
		}
	}
	return fromDigits(product, o.p)
}

// raise returns the n-th power of a, n being at least 0.
func (o oracle) raise(a, n int) int {
	if n == 0 {
		return 1
	}
	half := o.raise(a, n/2)
	if n%2 == 0 {
		return o.multiply(half, half)
	}
	return o.multiply(o.multiply(half, half), a)
}

// evaluate returns the sum of the terms of p at x.
func (o oracle) evaluate(p []int, x int) int {
	total, power := 0, 1
	for _, c := range p {
		total = o.add(total, o.multiply(c, power))
		power = o.multiply(power, x)
	}
	return total
}

// polynomialProduct adds up all the products of coefficients.
func (o oracle) polynomialProduct(p, q []int) []int {
	if len(p) == 0 || len(q) == 0 {
		return nil
	}
	result := make([]int, len(p)+len(q)-1)
	for i, a := range p {
		for j, b := range q {
			result[i+j] = o.add(result[i+j], o.multiply(a, b))
		}
	}
	return result
}

func (o oracle) polynomialSum(p, q []int) []int {
	result := make([]int, max(len(p), len(q)))
	copy(result, p)
	for i, c := range q {
		result[i] = o.add(result[i], c)
	}
	return withoutZeros(result)
}

func withoutZeros(p []int) []int {
	for len(p) > 0 && p[len(p)-1] == 0 {
		p = p[:len(p)-1]
	}
	return p
}

// dot returns the sum of the products of the elements at the same places.
func (o oracle) dot(a, b []int) int {
	total := 0
	for i := range a {
		total = o.add(total, o.multiply(a[i], b[i]))
	}
	return total
}

// lists yields all lists of n elements.
func (o oracle) lists(n int) func(func([]int) bool) {
	return func(yield func([]int) bool) {
		count := 1
		for range n {
			count *= o.q
		}
		for number := range count {
			list := make([]int, n)
			copy(list, toDigits(number, o.q))
			if !yield(list) {
				return
			}
		}
	}
}

func allOrders() []int {
	return slices.Concat(smallOrders(), middleOrders(), largeOrders())
}

func smallOrders() []int {
	return []int{2, 3, 4, 5, 7, 8, 9, 11, 13, 16, 17, 25, 27, 32, 49, 64}
}

func middleOrders() []int {
	return []int{81, 121, 125, 128, 169, 243, 251, 256, 257, 289, 343, 512, 625, 729}
}

func largeOrders() []int {
	return []int{2401, 4096, 15625, 28561, 29929, 32768, 50653, 59049, 63001, 65521, 65536}
}

func fieldOf(q int) *field.Field {
	f, e := field.New(q)
	if e != api.OK {
		panic("no field")
	}
	return f
}

func newRandom() *rand.Rand {
	return rand.New(rand.NewPCG(8, 9))
}

// anyPolynomial returns a polynomial with that number of coefficients, many of which are 0 or 1.
func anyPolynomial(r *rand.Rand, q, n int) []int {
	p := make([]int, n)
	for i := range p {
		p[i] = []int{0, 1, q - 1, r.IntN(q), r.IntN(q), r.IntN(q)}[r.IntN(6)]
	}
	if n > 0 && p[n-1] == 0 {
		p[n-1] = 1 + r.IntN(q-1)
	}
	return p
}

func anyList(r *rand.Rand, q, n int) []int {
	list := make([]int, n)
	for i := range list {
		list[i] = r.IntN(q)
	}
	return list
}

func anyMatrix(r *rand.Rand, q, rows, columns int) [][]int {
	m := make([][]int, rows)
	for i := range m {
		m[i] = anyList(r, q, columns)
	}
	return m
}

func expectNumber(t *testing.T, what string, got int, e api.Errno, want int) {
	t.Helper()
	if e != api.OK || got != want {
		t.Errorf("%s: %d, %d; want %d", what, got, e, want)
	}
}

func expectList(t *testing.T, what string, got []int, e api.Errno, want []int) {
	t.Helper()
	if e != api.OK || !slices.Equal(got, want) {
		t.Errorf("%s: %v, %d; want %v", what, got, e, want)
	}
}

// expectError checks the error, and that each of the results beside it is a zero value or empty.
func expectError(t *testing.T, what string, e, want api.Errno, results ...any) {
	t.Helper()
	if e != want {
		t.Errorf("%s: error %d; want %d", what, e, want)
	}
	for _, result := range results {
		v := reflect.ValueOf(result)
		if v.Kind() == reflect.Slice && v.Len() == 0 {
			continue
		}
		if !v.IsZero() {
			t.Errorf("%s: %v beside the error %d", what, result, e)
		}
	}
}
