package code

import "dauber/field"

// trimmed returns the polynomial without the zeros at its end.
func trimmed(p []int) []int {
	n := len(p)
	for n > 0 && p[n-1] == 0 {
		n--
	}
	return p[:n]
}

// padded returns a copy of p with that many coefficients, of which there are not more.
func padded(p []int, coefficients int) []int {
	result := make([]int, coefficients)
	copy(result, p)
	return result
}

// addMultiple adds the elements of a list that is not longer, each times c, to those of another one.
func addMultiple(f *field.Field, to, from []int, c int) {
	for i, a := range from {
		to[i] = f.Add(to[i], f.Mul(a, c))
	}
}

// plusMultiple returns p + c x^shift q, as new memory.
func plusMultiple(f *field.Field, p, q []int, c, shift int) []int {
	result := padded(p, max(len(p), shift+len(q)))
	addMultiple(f, result[shift:], q, c)
	return trimmed(result)
}

// product returns the product of all the polynomials; of none it is 1.
func product(f *field.Field, factors ...[]int) []int {
	result := []int{1}
	for _, factor := range factors {
		result, _ = f.Product(result, factor)
	}
	return result
}

// vanishing returns the monic polynomial of the least degree that is 0 at the points.
func vanishing(f *field.Field, points []int) []int {
	var factors [][]int
	for _, x := range points {
		factors = append(factors, []int{f.Sub(0, x), 1})
	}
	return product(f, factors...)
}

// valuesAt returns the values at the points of the polynomial with these coefficients, of which the last ones may be 0.
func valuesAt(f *field.Field, points, coefficients []int) []int {
	p := trimmed(coefficients)
	values := make([]int, len(points))
	for i, x := range points {
		values[i], _ = f.Value(p, x)
	}
	return values
}
