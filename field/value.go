package field

import "dauber/tally"

// ring is what polynomials have values in. The zero value of an element is its 0.
type ring[E any] interface {
	sum(a, b E) E
	product(a, b E) E
}

// value returns the value at x of the polynomial with these coefficients, by Horner's rule.
func value[E any](r ring[E], coefficients []E, x E) E {
	var result E
	for i := len(coefficients) - 1; i >= 0; i-- {
		result = r.sum(r.product(result, x), coefficients[i])
	}
	return result
}

// integers is the ring of the integers that are far from api.MaxBits.
type integers struct{}

func (integers) sum(a, b tally.Int) tally.Int {
	result, _ := a.Add(b)
	return result
}

func (integers) product(a, b tally.Int) tally.Int {
	result, _ := a.Mul(b)
	return result
}
