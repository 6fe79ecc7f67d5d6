package field_test

import (
	"math"
	"slices"
	"testing"

	"dauber/api"
	"dauber/field"
)

// polynomialOrders are orders of fields over which the oracle is fast enough.
func polynomialOrders() []int {
	return []int{2, 3, 4, 5, 7, 8, 9, 13, 16, 27, 64, 121, 251, 256, 65521, 65536, 59049}
}

// candidate is a list that may be a polynomial, and what Check returns for it.
type candidate struct {
	p []int
	e api.Errno
}

// candidates returns polynomials and lists that are none.
func candidates(q int) []candidate {
	full := make([]int, 200)
	full[199] = q - 1
	endless := make([]int, 200)
	over := make([]int, 201)
	over[200] = 1
	strange := slices.Clone(over)
	strange[3] = q
	return []candidate{
		{nil, api.OK}, {[]int{}, api.OK}, {[]int{1}, api.OK}, {[]int{q - 1}, api.OK}, {[]int{0, 1}, api.OK}, {[]int{1, 0, q - 1}, api.OK}, {full, api.OK},
		{[]int{0}, api.ErrArg}, {[]int{1, 0}, api.ErrArg}, {[]int{0, 1, 0}, api.ErrArg}, {endless, api.ErrArg},
		{[]int{q}, api.ErrArg}, {[]int{-1}, api.ErrArg}, {[]int{q, 1}, api.ErrArg}, {[]int{-1, 1}, api.ErrArg}, {[]int{1, math.MinInt, 1}, api.ErrArg}, {[]int{1, 1, math.MaxInt}, api.ErrArg}, {[]int{1, q, 0}, api.ErrArg},
		{over, api.ErrLong}, {strange, api.ErrLong}, {make([]int, 201), api.ErrLong}, {make([]int, 5000), api.ErrLong},
	}
}

// P2.3: Check, and that the other functions return what it returns.
func TestCheck(t *testing.T) {
	for _, q := range []int{2, 3, 4, 7, 9, 65521, 256} {
		f := fieldOf(q)
		for _, c := range candidates(q) {
			expectError(t, "Check", f.Check(c.p), c.e)
			if c.e == api.OK {
				continue
			}
			v, e := f.Value(c.p, 1)
			expectError(t, "Value", e, c.e, v)
			roots, e := f.Roots(c.p)
			expectError(t, "Roots", e, c.e, roots)
			is, e := f.Irreducible(c.p)
			expectError(t, "Irreducible", e, c.e, is)
		}
	}
}

// P2.3: of two lists the first one is checked first, before a division by 0 is found.
func TestCheckBoth(t *testing.T) {
	for _, q := range []int{2, 3, 4, 7, 9} {
		f := fieldOf(q)
		for _, a := range candidates(q) {
			for _, b := range candidates(q) {
				want := a.e
				if want == api.OK {
					want = b.e
				}
				product, e := f.Product(a.p, b.p)
				common, e2 := f.Common(a.p, b.p)
				if want != api.OK {
					expectError(t, "Product", e, want, product)
					expectError(t, "Common", e2, want, common)
				} else if e != api.OK || e2 != api.OK {
					t.Errorf("Product, Common: %d, %d", e, e2)
				}
				if want == api.OK && len(b.p) == 0 {
					want = api.ErrZero
				}
				quotient, rest, e := f.Divide(a.p, b.p)
				if want != api.OK {
					expectError(t, "Divide", e, want, quotient, rest)
				} else if e != api.OK {
					t.Errorf("Divide: %d", e)
				}
			}
		}
	}
}

// P2.3: Value.
func TestValue(t *testing.T) {
	r := newRandom()
	for _, q := range polynomialOrders() {
		f, o := fieldOf(q), oracleOf(q)
		for n := range 12 {
			p := anyPolynomial(r, q, n)
			for _, x := range []int{0, 1, q - 1, r.IntN(q), r.IntN(q)} {
				got, e := f.Value(p, x)
				expectNumber(t, "Value", got, e, o.evaluate(p, x))
				for _, far := range []int{x + q, x - q, x - 5*q} {
					got, e = f.Value(p, far)
					expectNumber(t, "Value at a number that is no element", got, e, o.evaluate(p, x))
				}
			}
			for _, far := range []int{math.MinInt, math.MaxInt} {
				got, e := f.Value(p, far)
				expectNumber(t, "Value at a number that is no element", got, e, o.evaluate(p, modulo(far, q)))
			}
		}
	}
}

// P2.3: Product and Divide.
func TestProductDivide(t *testing.T) {
	r := newRandom()
	for _, q := range polynomialOrders() {
		f, o := fieldOf(q), oracleOf(q)
		for range 60 {
			a, b := anyPolynomial(r, q, r.IntN(9)), anyPolynomial(r, q, r.IntN(7))
			product, e := f.Product(a, b)
			expectList(t, "Product", product, e, o.polynomialProduct(a, b))
			if len(b) == 0 {
				continue
			}
			expectDivide(t, f, o, a, b)
			quotient, rest, e := f.Divide(product, b)
			expectList(t, "Divide: the quotient of a product", quotient, e, a)
			expectList(t, "Divide: the rest of a product", rest, e, nil)
		}
	}
	f, o := fieldOf(9), oracleOf(9)
	for range 5 {
		a, b := anyPolynomial(r, 9, 200), anyPolynomial(r, 9, 200)
		product, e := f.Product(a, b)
		expectList(t, "Product", product, e, o.polynomialProduct(a, b))
		expectDivide(t, f, o, a, b)
		expectDivide(t, f, o, a, anyPolynomial(r, 9, 1+r.IntN(199)))
	}
}

// expectDivide checks that p is q times the quotient plus the rest, of lesser degree than q.
func expectDivide(t *testing.T, f *field.Field, o oracle, p, q []int) {
	t.Helper()
	quotient, rest, e := f.Divide(p, q)
	if e != api.OK || f.Check(quotient) != api.OK || f.Check(rest) != api.OK || len(rest) >= len(q) {
		t.Errorf("Divide(%v, %v): %v, %v, %d", p, q, quotient, rest, e)
	}
	expectList(t, "q times the quotient, plus the rest", o.polynomialSum(o.polynomialProduct(quotient, q), rest), api.OK, p)
}

// P2.3: Common, against all monic polynomials, the greatest degrees first.
func TestCommon(t *testing.T) {
	r := newRandom()
	for _, q := range []int{2, 3, 4, 5} {
		f, o := fieldOf(q), oracleOf(q)
		for range 150 {
			factor := anyPolynomial(r, q, 1+r.IntN(3))
			a := o.polynomialProduct(factor, anyPolynomial(r, q, r.IntN(4)))
			b := o.polynomialProduct(factor, anyPolynomial(r, q, r.IntN(4)))
			common, e := f.Common(a, b)
			expectList(t, "Common", common, e, greatestCommon(f, o, a, b))
		}
	}
	for _, q := range polynomialOrders() {
		f, o := fieldOf(q), oracleOf(q)
		for range 20 {
			factor, more := anyPolynomial(r, q, 1+r.IntN(6)), anyPolynomial(r, q, 1+r.IntN(5))
			inverse := o.raise(factor[len(factor)-1], q-2)
			monic := o.polynomialProduct(factor, []int{inverse})
			a := o.polynomialProduct(factor, more)
			b := o.polynomialProduct(factor, o.polynomialSum(o.polynomialProduct(more, []int{0, 1}), []int{1}))
			common, e := f.Common(a, b)
			expectList(t, "Common of f g and f (x g + 1)", common, e, monic)
			common, e = f.Common(factor, nil)
			expectList(t, "Common of f and 0", common, e, monic)
			common, e = f.Common(nil, factor)
			expectList(t, "Common of 0 and f", common, e, monic)
		}
		common, e := f.Common(nil, []int{})
		expectList(t, "Common of 0 and 0", common, e, nil)
	}
}

// greatestCommon returns the monic polynomial of the greatest degree that divides a and b.
func greatestCommon(f *field.Field, o oracle, a, b []int) []int {
	for n := max(len(a), len(b)); n > 0; n-- {
		for low := range o.lists(n - 1) {
			p := append(low, 1)
			_, first, _ := f.Divide(a, p)
			_, second, _ := f.Divide(b, p)
			if len(first) == 0 && len(second) == 0 {
				return p
			}
		}
	}
	return nil
}

// P2.3: Roots.
func TestRoots(t *testing.T) {
	r := newRandom()
	for _, q := range []int{2, 3, 4, 5, 7, 8, 9, 13, 16, 27, 64, 121} {
		f, o := fieldOf(q), oracleOf(q)
		for n := range 7 {
			for range 5 {
				p := anyPolynomial(r, q, n)
				roots, e := f.Roots(p)
				if n == 0 {
					expectError(t, "Roots of 0", e, api.ErrZero, roots)
					continue
				}
				var want []int
				for x := range q {
					if o.evaluate(p, x) == 0 {
						want = append(want, x)
					}
				}
				expectList(t, "Roots", roots, e, want)
			}
		}
	}
	for _, q := range []int{211, 65521, 65536, 59049} {
		f := fieldOf(q)
		want := r.Perm(q)[:199]
		p := []int{1 + r.IntN(q-1)}
		for _, x := range want {
			p, _ = f.Product(p, []int{f.Sub(0, x), 1})
		}
		slices.Sort(want)
		roots, e := f.Roots(p)
		expectList(t, "Roots of a product of 199", roots, e, want)
	}
}

// P2.3: Through.
func TestThrough(t *testing.T) {
	r := newRandom()
	for _, q := range polynomialOrders() {
		f, o := fieldOf(q), oracleOf(q)
		for n := range min(q, 9) + 1 {
			xs, ys := r.Perm(q)[:n], anyList(r, q, n)
			p, e := f.Through(xs, ys)
			if e != api.OK || f.Check(p) != api.OK || len(p) > n {
				t.Fatalf("%d: Through(%v, %v): %v, %d", q, xs, ys, p, e)
			}
			for i, x := range xs {
				if o.evaluate(p, x) != ys[i] {
					t.Errorf("%d: Through(%v, %v): %v", q, xs, ys, p)
				}
			}
			short := anyPolynomial(r, q, r.IntN(n+1))
			for i, x := range xs {
				ys[i] = o.evaluate(short, x)
			}
			p, e = f.Through(xs, ys)
			expectList(t, "Through the values of a shorter polynomial", p, e, short)
		}
	}
	for _, q := range []int{211, 256, 65521, 65536} {
		f, p := fieldOf(q), anyPolynomial(r, q, 200)
		xs := r.Perm(q)[:200]
		ys := make([]int, 200)
		for i, x := range xs {
			ys[i], _ = f.Value(p, x)
		}
		got, e := f.Through(xs, ys)
		expectList(t, "Through 200 points", got, e, p)
		got, e = f.Through(xs, make([]int, 200))
		expectList(t, "Through 200 zeros", got, e, nil)
	}
}

// P2.3: the errors of Through, in their order.
func TestThroughErrors(t *testing.T) {
	for _, q := range []int{7, 9} {
		f := fieldOf(q)
		long := make([]int, 201)
		for _, c := range []struct {
			xs, ys []int
			e      api.Errno
		}{
			{[]int{1}, nil, api.ErrShape},
			{nil, []int{1}, api.ErrShape},
			{[]int{1, 1}, []int{2}, api.ErrShape},
			{[]int{q}, []int{-1, 3}, api.ErrShape},
			{long, long[:200], api.ErrShape},
			{long[:200], long, api.ErrShape},
			{long, long, api.ErrLong},
			{append(slices.Clone(long[:200]), q), append(slices.Clone(long[:200]), -1), api.ErrLong},
			{long[:200], long[:200], api.ErrArg},
			{[]int{1, 2, 1}, []int{3, 4, 3}, api.ErrArg},
			{[]int{1, 2, 2}, []int{3, 4, 5}, api.ErrArg},
			{[]int{0, 0}, []int{0, 0}, api.ErrArg},
			{[]int{1, q}, []int{3, 4}, api.ErrArg},
			{[]int{-1}, []int{3}, api.ErrArg},
			{[]int{1}, []int{q}, api.ErrArg},
			{[]int{1, 2}, []int{0, -1}, api.ErrArg},
			{[]int{math.MaxInt}, []int{0}, api.ErrArg},
			{[]int{0}, []int{math.MinInt}, api.ErrArg},
		} {
			p, e := f.Through(c.xs, c.ys)
			expectError(t, "Through", e, c.e, p)
		}
	}
}

// P2.3: divisions calculated by hand.
func TestDivideByHand(t *testing.T) {
	quotient, rest, e := fieldOf(5).Divide([]int{1, 0, 0, 1}, []int{2, 3})
	expectList(t, "(x^3 + 1) / (3 x + 2): the quotient", quotient, e, []int{2, 2, 2})
	expectList(t, "(x^3 + 1) / (3 x + 2): the rest", rest, e, []int{2})
	quotient, rest, e = fieldOf(7).Divide([]int{1, 2}, []int{1, 2, 3})
	expectList(t, "a lesser degree: the quotient", quotient, e, nil)
	expectList(t, "a lesser degree: the rest", rest, e, []int{1, 2})
}
