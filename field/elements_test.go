package field_test

import (
	"math"
	"math/big"
	"slices"
	"testing"

	"dauber/api"
	"dauber/field"
)

func expectSums(t *testing.T, f *field.Field, o oracle, a, b int) {
	t.Helper()
	if got := f.Add(a, b); got != o.add(a, b) {
		t.Fatalf("%d: Add(%d, %d): %d", o.q, a, b, got)
	}
	if got := f.Sub(a, b); got != o.add(a, o.negate(b)) {
		t.Fatalf("%d: Sub(%d, %d): %d", o.q, a, b, got)
	}
	product := o.multiply(a, b)
	if got := f.Mul(a, b); got != product {
		t.Fatalf("%d: Mul(%d, %d): %d", o.q, a, b, got)
	}
	if b == 0 {
		got, e := f.Div(a, b)
		expectError(t, "Div", e, api.ErrZero, got)
		return
	}
	if got, e := f.Div(product, b); got != a || e != api.OK {
		t.Fatalf("%d: Div(%d, %d): %d, %d", o.q, product, b, got, e)
	}
}

// P2.2: Add, Sub, Mul and Div.
func TestSums(t *testing.T) {
	for _, q := range smallOrders() {
		f, o := fieldOf(q), oracleOf(q)
		for a := range q {
			for b := range q {
				expectSums(t, f, o, a, b)
			}
		}
	}
	r := newRandom()
	for _, q := range append(middleOrders(), largeOrders()...) {
		f, o := fieldOf(q), oracleOf(q)
		for _, a := range []int{0, 1, 2, q / 2, q - 2, q - 1} {
			for _, b := range []int{0, 1, 2, q / 2, q - 2, q - 1, o.negate(a)} {
				expectSums(t, f, o, a, b)
			}
		}
		for range 3000 {
			a := r.IntN(q)
			expectSums(t, f, o, a, r.IntN(q))
			expectSums(t, f, o, a, o.negate(a))
		}
	}
}

// strangers returns numbers that are no elements.
func strangers(q int) []int {
	return []int{q, q + 1, 2*q - 1, 2 * q, 5*q + 2, -1, -2, 1 - q, -q, -q - 1, -3*q + 1, math.MaxInt, math.MaxInt - 1, math.MinInt, math.MinInt + 1}
}

// modulo returns the remainder of a from 0 to q - 1.
func modulo(a, q int) int {
	return int(new(big.Int).Mod(big.NewInt(int64(a)), big.NewInt(int64(q))).Int64())
}

// P2.2: arguments that are no elements are taken modulo q.
func TestStrangers(t *testing.T) {
	type pair struct {
		number int
		e      api.Errno
	}
	both := func(number int, e api.Errno) pair { return pair{number, e} }
	for _, q := range []int{2, 3, 4, 7, 8, 9, 25, 257, 65521, 65536, 59049} {
		f := fieldOf(q)
		for _, a := range strangers(q) {
			small := modulo(a, q)
			for _, b := range append(strangers(q), 0, 1, q-1) {
				for _, x := range [][2]int{{a, b}, {b, a}} {
					y := [2]int{modulo(x[0], q), modulo(x[1], q)}
					if f.Add(x[0], x[1]) != f.Add(y[0], y[1]) || f.Sub(x[0], x[1]) != f.Sub(y[0], y[1]) || f.Mul(x[0], x[1]) != f.Mul(y[0], y[1]) || both(f.Div(x[0], x[1])) != both(f.Div(y[0], y[1])) {
						t.Errorf("%d: %v", q, x)
					}
				}
			}
			for _, n := range []int64{-3, -1, 0, 1, 2, 5} {
				if both(f.Pow(a, n)) != both(f.Pow(small, n)) {
					t.Errorf("%d: Pow(%d, %d)", q, a, n)
				}
			}
			if both(f.Log(a)) != both(f.Log(small)) || both(f.Root(a)) != both(f.Root(small)) || f.Trace(a) != f.Trace(small) || f.Norm(a) != f.Norm(small) || !slices.Equal(f.Minimal(a), f.Minimal(small)) {
				t.Errorf("%d: %d", q, a)
			}
		}
		for _, zero := range []int{0, q, -q, 7 * q, -7 * q} {
			got, e := f.Div(1, zero)
			expectError(t, "Div by a multiple of q", e, api.ErrZero, got)
			got, e = f.Log(zero)
			expectError(t, "Log of a multiple of q", e, api.ErrZero, got)
			got, e = f.Pow(zero, -1)
			expectError(t, "Pow of a multiple of q", e, api.ErrZero, got)
		}
	}
}

// P2.2: Pow.
func TestPow(t *testing.T) {
	for _, q := range smallOrders() {
		f, o := fieldOf(q), oracleOf(q)
		for a := 1; a < q; a++ {
			power := 1
			for n := range int64(2*q + 3) {
				got, e := f.Pow(a, n)
				expectNumber(t, "Pow", got, e, power)
				inverse, e := f.Pow(a, -n)
				if e != api.OK || o.multiply(inverse, power) != 1 {
					t.Errorf("%d: Pow(%d, %d): %d, %d", q, a, -n, inverse, e)
				}
				power = o.multiply(power, a)
			}
		}
	}
	exponents := []int64{math.MinInt64, math.MinInt64 + 1, -1 << 40, -65535, 65534, 65535, 65536, 1 << 40, math.MaxInt64 - 1, math.MaxInt64}
	r := newRandom()
	for _, q := range allOrders() {
		f, o := fieldOf(q), oracleOf(q)
		for _, n := range append(exponents, r.Int64(), -r.Int64()) {
			a := 1 + r.IntN(q-1)
			small := new(big.Int).Mod(big.NewInt(n), big.NewInt(int64(q-1))).Int64()
			got, e := f.Pow(a, n)
			expectNumber(t, "Pow", got, e, o.raise(a, int(small)))
		}
	}
}

// P2.2: powers of 0.
func TestPowOfZero(t *testing.T) {
	for _, q := range []int{2, 3, 4, 9, 65521, 65536} {
		f := fieldOf(q)
		for _, n := range []int64{1, 2, int64(q - 1), int64(2*q - 2), math.MaxInt64} {
			got, e := f.Pow(0, n)
			expectNumber(t, "Pow of 0", got, e, 0)
			got, e = f.Pow(0, -n)
			expectError(t, "Pow of 0", e, api.ErrZero, got)
		}
		got, e := f.Pow(0, 0)
		expectNumber(t, "Pow of 0 and 0", got, e, 1)
		got, e = f.Pow(0, math.MinInt64)
		expectError(t, "Pow of 0", e, api.ErrZero, got)
	}
}

// P2.2: Log.
func TestLog(t *testing.T) {
	r := newRandom()
	for _, q := range allOrders() {
		f, o := fieldOf(q), oracleOf(q)
		got, e := f.Log(0)
		expectError(t, "Log of 0", e, api.ErrZero, got)
		for a := 1; a < q; a++ {
			if q > 1000 && a > 10 && a < q-10 && r.IntN(q) > 500 {
				continue
			}
			n, e := f.Log(a)
			if e != api.OK || n < 0 || n > q-2 || o.raise(f.Generator(), n) != a {
				t.Errorf("%d: Log(%d): %d, %d", q, a, n, e)
			}
		}
	}
	for p := 2; p < 400; p++ {
		if leastDivisor(p) != p {
			continue
		}
		f := fieldOf(p)
		for n, power := 0, 1; n < p-1; n++ {
			got, e := f.Log(power)
			expectNumber(t, "Log", got, e, n)
			power = power * f.Generator() % p
		}
	}
}

// P2.2: Trace and Norm. P2.6: they are from 0 to p - 1; the trace of a sum is the sum, the norm of a product the product.
func TestTraceNorm(t *testing.T) {
	r := newRandom()
	for _, q := range allOrders() {
		f, o := fieldOf(q), oracleOf(q)
		for i := range min(q, 300) {
			a, b := i, r.IntN(q)
			if q > 300 {
				a = r.IntN(q)
			}
			sum, product, power := 0, 1, a
			for range o.k {
				sum, product = o.add(sum, power), o.multiply(product, power)
				power = o.raise(power, o.p)
			}
			if f.Trace(a) != sum || f.Norm(a) != product {
				t.Errorf("%d: Trace and Norm of %d: %d, %d; want %d, %d", q, a, f.Trace(a), f.Norm(a), sum, product)
			}
			if sum < 0 || sum >= o.p || product < 0 || product >= o.p {
				t.Errorf("%d: Trace and Norm of %d: %d, %d", q, a, sum, product)
			}
			if f.Trace(f.Add(a, b)) != (f.Trace(a)+f.Trace(b))%o.p || f.Norm(f.Mul(a, b)) != f.Norm(a)*f.Norm(b)%o.p {
				t.Errorf("%d: Trace of %d + %d, or Norm of their product", q, a, b)
			}
		}
	}
}

// leastRelation returns the first monic polynomial with coefficients from 0 to p - 1, by degree, of which a is a root.
func leastRelation(o oracle, a int) []int {
	for first := o.p; ; first *= o.p {
		for number := first; number < 2*first; number++ {
			if p := toDigits(number, o.p); o.evaluate(p, a) == 0 {
				return p
			}
		}
	}
}

// P2.2: Minimal.
func TestMinimal(t *testing.T) {
	for _, q := range append(smallOrders(), 81, 121, 125, 128, 256) {
		f, o := fieldOf(q), oracleOf(q)
		for a := range q {
			if a > 70 && a%7 > 0 {
				continue
			}
			expectList(t, "Minimal", f.Minimal(a), api.OK, leastRelation(o, a))
		}
	}
}

// P2.6: the minimal polynomial is irreducible, its degree divides k, and its roots are a, a^p, a^(p^2), ..
func TestMinimalRoots(t *testing.T) {
	r := newRandom()
	for _, q := range allOrders() {
		f := fieldOf(q)
		p, k := f.Prime()
		for range 20 {
			a := r.IntN(q)
			minimal := f.Minimal(a)
			if is, e := fieldOf(p).Irreducible(minimal); !is || e != api.OK {
				t.Errorf("%d: Minimal(%d): %v", q, a, minimal)
			}
			degree := len(minimal) - 1
			if k%degree != 0 || minimal[degree] != 1 {
				t.Errorf("%d: Minimal(%d): %v", q, a, minimal)
			}
			var conjugates []int
			for range degree {
				conjugates = append(conjugates, a)
				a, _ = f.Pow(a, int64(p))
			}
			slices.Sort(conjugates)
			roots, e := f.Roots(minimal)
			expectList(t, "Roots of the minimal polynomial", roots, e, conjugates)
		}
	}
}

// P2.2: Root.
func TestRoot(t *testing.T) {
	for _, q := range allOrders() {
		f, o := fieldOf(q), oracleOf(q)
		least := map[int]int{}
		for b := q - 1; b >= 0; b-- {
			least[o.multiply(b, b)] = b
		}
		for a := range q {
			if q > 3000 && a%11 > 0 && a < q-50 {
				continue
			}
			got, e := f.Root(a)
			if want, is := least[a]; is {
				expectNumber(t, "Root", got, e, want)
				continue
			}
			expectError(t, "Root", e, api.ErrNone, got)
		}
	}
}

// P2.5: the laws of a field; p times any element is 0; a^q is a; the p-th power keeps sums and products.
func TestLaws(t *testing.T) {
	r := newRandom()
	for _, q := range allOrders() {
		f := fieldOf(q)
		p, _ := f.Prime()
		frobenius := func(a int) int {
			power, _ := f.Pow(a, int64(p))
			return power
		}
		for range 300 {
			a, b, c := r.IntN(q), r.IntN(q), r.IntN(q)
			if f.Add(a, b) != f.Add(b, a) || f.Mul(a, b) != f.Mul(b, a) || f.Add(f.Add(a, b), c) != f.Add(a, f.Add(b, c)) || f.Mul(f.Mul(a, b), c) != f.Mul(a, f.Mul(b, c)) || f.Mul(a, f.Add(b, c)) != f.Add(f.Mul(a, b), f.Mul(a, c)) {
				t.Fatalf("%d: the laws, of %d, %d, %d", q, a, b, c)
			}
			if f.Add(a, 0) != a || f.Mul(a, 1) != a || f.Mul(a, 0) != 0 || f.Add(f.Sub(a, b), b) != a || f.Sub(a, a) != 0 {
				t.Fatalf("%d: 0, 1 and differences, of %d, %d", q, a, b)
			}
			if inverse, e := f.Div(1, a); a > 0 && (e != api.OK || f.Mul(a, inverse) != 1) {
				t.Fatalf("%d: Div(1, %d): %d, %d", q, a, inverse, e)
			}
			times := 0
			for range p {
				if times = f.Add(times, a); p > 1000 {
					break
				}
			}
			if power, _ := f.Pow(a, int64(q)); p < 1000 && times != 0 || power != a {
				t.Fatalf("%d: p times %d: %d; the power of q: %d", q, a, times, power)
			}
			if frobenius(f.Add(a, b)) != f.Add(frobenius(a), frobenius(b)) || frobenius(f.Mul(a, b)) != f.Mul(frobenius(a), frobenius(b)) {
				t.Fatalf("%d: the p-th power, of %d, %d", q, a, b)
			}
		}
	}
}

// The chapter's examples.
func TestElementExamples(t *testing.T) {
	f := fieldOf(8)
	if f.Mul(2, 4) != 3 || f.Trace(1) != 1 || f.Trace(2) != 0 || !slices.Equal(f.Minimal(2), f.Modulus()) || !slices.Equal(f.Minimal(3), []int{1, 0, 1, 1}) || !slices.Equal(f.Minimal(0), []int{0, 1}) {
		t.Error("the field of 8")
	}
	f = fieldOf(7)
	got, e := f.Log(2)
	expectNumber(t, "Log(2)", got, e, 2)
	got, e = f.Root(2)
	expectNumber(t, "Root(2)", got, e, 3)
	got, e = f.Root(3)
	expectError(t, "Root(3)", e, api.ErrNone, got)
}
