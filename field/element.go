package field

import "dauber/api"

// reduced returns a modulo the order.
func (f *Field) reduced(a int) int {
	a %= f.order
	if a < 0 {
		a += f.order
	}
	return a
}

// negative returns -a: the element that has the number prime - 1 is -1.
func (f *Field) negative(a int) int {
	return f.product(a, f.prime-1)
}

func (f *Field) difference(a, b int) int {
	return f.sum(a, f.negative(b))
}

// inverse returns 1 divided by a, which is not 0.
func (f *Field) inverse(a int) int {
	return f.power(a, f.order-2)
}

// conjugates returns a, a^p, a^(p^2), .., as many as the degree of the field.
func (f *Field) conjugates(a int) []int {
	list := make([]int, f.degree)
	for i := range list {
		list[i] = a
		a = f.power(a, f.prime)
	}
	return list
}

// Add returns a + b.
func (f *Field) Add(a, b int) int {
	if f == nil {
		return 0
	}
	return f.sum(f.reduced(a), f.reduced(b))
}

// Sub returns a - b.
func (f *Field) Sub(a, b int) int {
	if f == nil {
		return 0
	}
	return f.difference(f.reduced(a), f.reduced(b))
}

// Mul returns a b.
func (f *Field) Mul(a, b int) int {
	if f == nil {
		return 0
	}
	return f.product(f.reduced(a), f.reduced(b))
}

// Div returns a divided by b, or ErrZero.
func (f *Field) Div(a, b int) (int, api.Errno) {
	if f == nil {
		return 0, api.ErrNil
	}
	b = f.reduced(b)
	if b == 0 {
		return 0, api.ErrZero
	}
	return f.product(f.reduced(a), f.inverse(b)), api.OK
}

// Pow returns the n-th power of a, or ErrZero if a is 0 and n is negative.
func (f *Field) Pow(a int, n int64) (int, api.Errno) {
	if f == nil {
		return 0, api.ErrNil
	}
	a = f.reduced(a)
	switch {
	case n == 0:
		return 1, api.OK
	case a == 0 && n < 0:
		return 0, api.ErrZero
	case a == 0:
		return 0, api.OK
	}
	// The power of a by order - 1 is 1.
	n %= int64(f.order - 1)
	if n < 0 {
		n += int64(f.order - 1)
	}
	return f.power(a, int(n)), api.OK
}

// Log returns the n from 0 to the order less 2 for which the n-th power of the generator is a, or ErrZero.
func (f *Field) Log(a int) (int, api.Errno) {
	if f == nil {
		return 0, api.ErrNil
	}
	a = f.reduced(a)
	if a == 0 {
		return 0, api.ErrZero
	}
	return f.logarithm(a), api.OK
}

// Trace returns the sum of a, a^p, a^(p^2), ..
func (f *Field) Trace(a int) int {
	if f == nil {
		return 0
	}
	trace := 0
	for _, c := range f.conjugates(f.reduced(a)) {
		trace = f.sum(trace, c)
	}
	return trace
}

// Norm returns the product of a, a^p, a^(p^2), ..
func (f *Field) Norm(a int) int {
	if f == nil {
		return 0
	}
	norm := 1
	for _, c := range f.conjugates(f.reduced(a)) {
		norm = f.product(norm, c)
	}
	return norm
}

// Minimal returns the monic polynomial of the least degree with coefficients from 0 to p - 1 of which a is a root.
func (f *Field) Minimal(a int) []int {
	if f == nil {
		return nil
	}
	minimal := []int{1}
	for i, c := range f.conjugates(f.reduced(a)) {
		if i > 0 && c == f.reduced(a) {
			break
		}
		minimal = f.multiply(minimal, []int{f.negative(c), 1})
	}
	return minimal
}

// Root returns the least element whose square is a, or ErrNone.
func (f *Field) Root(a int) (int, api.Errno) {
	if f == nil {
		return 0, api.ErrNil
	}
	a = f.reduced(a)
	if a == 0 {
		return 0, api.OK
	}
	n := f.logarithm(a)
	if n%2 == 1 {
		// The logarithms of a are n and n + order - 1, and so on: if order - 1 is odd, one of them is even.
		n += f.order - 1
	}
	if n%2 == 1 {
		return 0, api.ErrNone
	}
	root := f.power(f.generator, n/2)
	return min(root, f.negative(root)), api.OK
}
