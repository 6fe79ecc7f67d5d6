package field

import (
	"slices"

	"dauber/api"
)

const maxCoefficients = 200

// trimmed returns the polynomial without the zeros at its end. Its capacity is its length.
func trimmed(p []int) []int {
	n := len(p)
	for n > 0 && p[n-1] == 0 {
		n--
	}
	return p[:n:n]
}

// addMultiple adds the elements of a list that is not longer, each times c, to those of another one.
func (f *Field) addMultiple(to, from []int, c int) {
	if c == 0 {
		return
	}
	for i, a := range from {
		to[i] = f.sum(to[i], f.product(a, c))
	}
}

// multiply returns the product of two polynomials, as new memory.
func (f *Field) multiply(p, q []int) []int {
	if len(p) == 0 || len(q) == 0 {
		return nil
	}
	result := make([]int, len(p)+len(q)-1)
	for i, c := range p {
		f.addMultiple(result[i:], q, c)
	}
	return result
}

// divide returns the quotient and the rest of p by q, which is not 0, as new memory.
func (f *Field) divide(p, q []int) (quotient, rest []int) {
	rest = slices.Clone(p)
	if len(p) < len(q) {
		return nil, rest
	}
	top := len(q) - 1
	inverse := f.inverse(q[top])
	quotient = make([]int, len(p)-top)
	for i := len(quotient) - 1; i >= 0; i-- {
		quotient[i] = f.product(rest[i+top], inverse)
		f.addMultiple(rest[i:], q, f.negative(quotient[i]))
	}
	return quotient, trimmed(rest)
}

// monic returns p divided by its last coefficient, as new memory.
func (f *Field) monic(p []int) []int {
	result := make([]int, len(p))
	if len(p) > 0 {
		f.addMultiple(result, p, f.inverse(p[len(p)-1]))
	}
	return result
}

// common returns the monic polynomial of the greatest degree that divides both, as new memory.
func (f *Field) common(p, q []int) []int {
	for len(q) > 0 {
		_, rest := f.divide(p, q)
		p, q = q, rest
	}
	return f.monic(p)
}

// Check returns ErrLong if p has more than 200 coefficients, and ErrArg if it is no polynomial over the field.
func (f *Field) Check(p []int) api.Errno {
	switch {
	case f == nil:
		return api.ErrNil
	case len(p) > maxCoefficients:
		return api.ErrLong
	case !f.areElements(p) || len(p) > 0 && p[len(p)-1] == 0:
		return api.ErrArg
	}
	return api.OK
}

// checkBoth returns what Check returns for p, or else what it returns for q.
func (f *Field) checkBoth(p, q []int) api.Errno {
	if e := f.Check(p); e != api.OK {
		return e
	}
	return f.Check(q)
}

// Value returns the value of p at x.
func (f *Field) Value(p []int, x int) (int, api.Errno) {
	if e := f.Check(p); e != api.OK {
		return 0, e
	}
	return value(f.arithmetic, p, f.reduced(x)), api.OK
}

// Product returns p q.
func (f *Field) Product(p, q []int) ([]int, api.Errno) {
	if e := f.checkBoth(p, q); e != api.OK {
		return nil, e
	}
	return f.multiply(p, q), api.OK
}

// Divide returns the quotient and the rest of p by q, or ErrZero if q is 0.
func (f *Field) Divide(p, q []int) (quotient, rest []int, e api.Errno) {
	if e := f.checkBoth(p, q); e != api.OK {
		return nil, nil, e
	}
	if len(q) == 0 {
		return nil, nil, api.ErrZero
	}
	quotient, rest = f.divide(p, q)
	return quotient, rest, api.OK
}

// Common returns the monic polynomial of the greatest degree that divides both; of 0 and 0 it is 0.
func (f *Field) Common(p, q []int) ([]int, api.Errno) {
	if e := f.checkBoth(p, q); e != api.OK {
		return nil, e
	}
	return f.common(p, q), api.OK
}

// Roots returns the elements at which p is 0, rising, or ErrZero if p is 0.
func (f *Field) Roots(p []int) ([]int, api.Errno) {
	if e := f.Check(p); e != api.OK {
		return nil, e
	}
	if len(p) == 0 {
		return nil, api.ErrZero
	}
	var roots []int
	for x := range f.order {
		if value(f.arithmetic, p, x) == 0 {
			roots = append(roots, x)
		}
	}
	return roots, api.OK
}

// Through returns the polynomial of the least degree whose value at each of the xs is its y; ErrShape if there are not as many ys; ErrLong; or ErrArg.
func (f *Field) Through(xs, ys []int) ([]int, api.Errno) {
	switch {
	case f == nil:
		return nil, api.ErrNil
	case len(xs) != len(ys):
		return nil, api.ErrShape
	case len(xs) > maxCoefficients:
		return nil, api.ErrLong
	case !f.areElements(xs) || !f.areElements(ys):
		return nil, api.ErrArg
	}
	// A multiple of a polynomial that is 0 at the earlier xs leads to the next y.
	result := make([]int, len(xs))
	vanishing := []int{1}
	for i, x := range xs {
		at := value(f.arithmetic, vanishing, x)
		if at == 0 {
			return nil, api.ErrArg
		}
		missing := f.difference(ys[i], value(f.arithmetic, result, x))
		f.addMultiple(result, vanishing, f.product(missing, f.inverse(at)))
		vanishing = f.multiply(vanishing, []int{f.negative(x), 1})
	}
	return trimmed(result), api.OK
}
