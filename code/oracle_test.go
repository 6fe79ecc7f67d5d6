package code_test

import (
	"iter"
	"math/big"
	"math/rand/v2"
	"reflect"
	"slices"
	"testing"

	"dauber/api"
	"dauber/code"
	"dauber/field"
	"dauber/tally"
)

// The tests compare the package with an oracle that calculates by the definitions, with the elements of package field.

func fieldOf(q int) *field.Field {
	f, e := field.New(q)
	if e != api.OK {
		panic("no field")
	}
	return f
}

func newRandom() *rand.Rand {
	return rand.New(rand.NewPCG(3, 11))
}

func anyList(r *rand.Rand, q, n int) []int {
	list := make([]int, n)
	for i := range list {
		list[i] = r.IntN(q)
	}
	return list
}

func anyMatrix(r *rand.Rand, q, rows, columns int) [][]int {
	m := make([][]int, rows)
	for i := range m {
		m[i] = anyList(r, q, columns)
	}
	return m
}

// anyCode returns a code with n points in any order.
func anyCode(r *rand.Rand, q, n, k int) code.Code {
	return code.Code{Order: q, Points: r.Perm(q)[:n], K: k}
}

// firstPoints returns a code with the points 0 to n - 1.
func firstPoints(q, n, k int) code.Code {
	c := code.Code{Order: q, K: k}
	for i := range n {
		c.Points = append(c.Points, i)
	}
	return c
}

// lists yields all lists of n numbers from first to last, in order.
func lists(first, last, n int) iter.Seq[[]int] {
	return func(yield func([]int) bool) {
		list := slices.Repeat([]int{first}, n)
		for {
			if !yield(slices.Clone(list)) {
				return
			}
			i := n - 1
			for i >= 0 && list[i] == last {
				list[i] = first
				i--
			}
			if i < 0 {
				return
			}
			list[i]++
		}
	}
}

// subsets yields all sets of at most m of the numbers 0 to n - 1, each in any order.
func subsets(r *rand.Rand, n, m int) iter.Seq[[]int] {
	return func(yield func([]int) bool) {
		for set := range 1 << n {
			var places []int
			for i := range n {
				if set>>i&1 == 1 {
					places = append(places, i)
				}
			}
			r.Shuffle(len(places), func(i, j int) { places[i], places[j] = places[j], places[i] })
			if len(places) <= m && !yield(places) {
				return
			}
		}
	}
}

// evaluate adds up the terms.
func evaluate(f *field.Field, p []int, x int) int {
	total, power := 0, 1
	for _, c := range p {
		total = f.Add(total, f.Mul(c, power))
		power = f.Mul(power, x)
	}
	return total
}

func values(f *field.Field, points, p []int) []int {
	var list []int
	for _, x := range points {
		list = append(list, evaluate(f, p, x))
	}
	return list
}

// allWords returns the words of a code of Reed and Solomon, ordered as lists.
func allWords(f *field.Field, c code.Code) [][]int {
	var words [][]int
	for message := range lists(0, c.Order-1, c.K) {
		words = append(words, values(f, c.Points, message))
	}
	slices.SortFunc(words, slices.Compare)
	return words
}

// apart counts the places that are not erased in which two words differ.
func apart(v, w, erased []int) int {
	count := 0
	for i := range v {
		if v[i] != w[i] && !slices.Contains(erased, i) {
			count++
		}
	}
	return count
}

// radiusOf returns the greatest t for which 2 t + K is at most the number of places that are not erased.
func radiusOf(c code.Code, erased []int) int {
	t := 0
	for 2*(t+1)+c.K <= len(c.Points)-len(erased) {
		t++
	}
	return t
}

func isPolynomial(q int, p []int) bool {
	for _, a := range p {
		if a < 0 || a >= q {
			return false
		}
	}
	return len(p) == 0 || p[len(p)-1] != 0
}

// isFar is the definition of a far pair, of a code, a word and erasures that are valid.
func isFar(f *field.Field, c code.Code, w, erased []int, far code.Far) bool {
	if !isPolynomial(c.Order, far.Q) || !isPolynomial(c.Order, far.E) || len(far.Q)+len(far.E) == 0 {
		return false
	}
	t := radiusOf(c, erased)
	if len(far.Q) > len(w)-len(erased)-t || len(far.E) > t+1 {
		return false
	}
	for i, x := range c.Points {
		if !slices.Contains(erased, i) && evaluate(f, far.Q, x) != f.Mul(evaluate(f, far.E, x), w[i]) {
			return false
		}
	}
	if len(far.E) == 0 {
		return true
	}
	quotient, rest, _ := f.Divide(far.Q, far.E)
	return len(rest) > 0 || len(quotient) > c.K || apart(values(f, c.Points, quotient), w, erased) > t
}

// sumOfRows returns the sum of the rows, each times its multiple.
func sumOfRows(f *field.Field, rows [][]int, multiples []int, columns int) []int {
	total := make([]int, columns)
	for i, row := range rows {
		for j, a := range row {
			total[j] = f.Add(total[j], f.Mul(a, multiples[i]))
		}
	}
	return total
}

func nonZero(word []int) int {
	return apart(word, make([]int, len(word)), nil)
}

func dot(f *field.Field, a, b []int) int {
	total := 0
	for i := range a {
		total = f.Add(total, f.Mul(a[i], b[i]))
	}
	return total
}

// makes is the definition: it is whether the register makes the sequence.
func makes(f *field.Field, taps, s []int) bool {
	for i := len(taps); i < len(s); i++ {
		total := s[i]
		for j, c := range taps {
			total = f.Add(total, f.Mul(c, s[i-j-1]))
		}
		if total != 0 {
			return false
		}
	}
	return true
}

func integers(numbers ...int64) []tally.Int {
	var list []tally.Int
	for _, n := range numbers {
		list = append(list, tally.Of(n))
	}
	return list
}

func parsed(s string) tally.Int {
	n, e := tally.Parse(s)
	if e != api.OK {
		panic("no integer: " + s)
	}
	return n
}

func ofBig(n *big.Int) tally.Int {
	return parsed(n.String())
}

func toBig(n tally.Int) *big.Int {
	result, _ := new(big.Int).SetString(n.String(), 10)
	return result
}

// choose is Pascal's triangle, by which C(n, k) is 0 for a k below 0 or above n.
func choose(n, k int) *big.Int {
	if k < 0 || k > n {
		return big.NewInt(0)
	}
	return new(big.Int).Binomial(int64(n), int64(k))
}

func powerOf(a int64, n int) *big.Int {
	return new(big.Int).Exp(big.NewInt(a), big.NewInt(int64(n)), nil)
}

func sameRows(a, b [][]int) bool {
	return slices.EqualFunc(a, b, func(x, y []int) bool { return slices.Equal(x, y) })
}

func sameIntegers(a, b []tally.Int) bool {
	return slices.EqualFunc(a, b, func(x, y tally.Int) bool { return x.Cmp(y) == 0 })
}

func expectList(t *testing.T, what string, got []int, e api.Errno, want []int) {
	t.Helper()
	if e != api.OK || !slices.Equal(got, want) {
		t.Errorf("%s: %v, %d; want %v", what, got, e, want)
	}
}

func expectRows(t *testing.T, what string, got [][]int, e api.Errno, want [][]int) {
	t.Helper()
	if e != api.OK || !sameRows(got, want) {
		t.Errorf("%s: %v, %d; want %v", what, got, e, want)
	}
}

func expectIntegers(t *testing.T, what string, got []tally.Int, e api.Errno, want []tally.Int) {
	t.Helper()
	if e != api.OK || !sameIntegers(got, want) {
		t.Errorf("%s: %v, %d; want %v", what, got, e, want)
	}
}

// expectError checks the error, and that each of the results beside it is a zero value or empty.
func expectError(t *testing.T, what string, e, want api.Errno, results ...any) {
	t.Helper()
	if e != want {
		t.Errorf("%s: error %d; want %d", what, e, want)
	}
	for _, result := range results {
		if !isNothing(reflect.ValueOf(result)) {
			t.Errorf("%s: %v beside the error %d", what, result, e)
		}
	}
}

// isNothing takes an empty list for a zero value, also in a struct.
func isNothing(v reflect.Value) bool {
	switch v.Kind() {
	case reflect.Slice:
		return v.Len() == 0
	case reflect.Struct:
		for i := range v.NumField() {
			if !isNothing(v.Field(i)) {
				return false
			}
		}
		return true
	}
	return v.IsZero()
}
