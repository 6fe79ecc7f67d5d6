package code

import (
	"dauber/api"
	"dauber/field"
)

// Far is two polynomials which prove that no word of a code is near.
type Far struct {
	Q, E []int
}

// received is what Decode takes: the points and the elements of the places that are not erased, and the radius in which to search.
type received struct {
	f                *field.Field
	points, elements []int
	k, radius        int
}

// receive returns what Decode takes; ErrShape; or ErrArg.
func receive(c Code, w, erased []int) (received, api.Errno) {
	if e := Check(c); e != api.OK {
		return received{}, e
	}
	n := len(c.Points)
	switch {
	case len(w) != n || len(erased) > n-c.K:
		return received{}, api.ErrShape
	case !areBelow(c.Order, w) || !areBelow(n, erased) || !areDifferent(erased):
		return received{}, api.ErrArg
	}
	f, _ := field.New(c.Order)
	r := received{f: f, k: c.K, radius: (n - len(erased) - c.K) / 2}
places:
	for i, a := range w {
		for _, place := range erased {
			if place == i {
				continue places
			}
		}
		r.points = append(r.points, c.Points[i])
		r.elements = append(r.elements, a)
	}
	return r, api.OK
}

// longest returns how many coefficients the Q of a far pair can have.
func (r received) longest() int {
	return len(r.points) - r.radius
}

// pair returns polynomials Q and E that are a far pair, unless E makes of Q the polynomial of a word within the radius (Gao).
func (r received) pair() Far {
	minus := r.f.Sub(0, 1)
	through, _ := r.f.Through(r.points, r.elements)
	// In Euclid's algorithm each rest is a multiple of the first polynomial, which is 0 at all points, plus E times the one through the elements. As the rests become shorter, E becomes longer: by the time that the one is short enough, the other is not yet too long.
	before, now := vanishing(r.f, r.points), through
	var earlier []int
	e := []int{1}
	for len(now) > r.longest() {
		quotient, rest, _ := r.f.Divide(before, now)
		before, now = now, rest
		next := plusMultiple(r.f, earlier, product(r.f, quotient, e), minus, 0)
		earlier, e = e, next
	}
	return Far{now, e}
}

// quotient returns Q divided by E, if that is the polynomial of a word within the radius.
func (r received) quotient(pair Far) ([]int, bool) {
	quotient, rest, e := r.f.Divide(pair.Q, pair.E)
	if e != api.OK || len(rest) > 0 || len(quotient) > r.k {
		return nil, false
	}
	return quotient, distance(valuesAt(r.f, r.points, quotient), r.elements) <= r.radius
}

// fits reports whether Q and E are polynomials, not both 0 and not too long, and Q is E times the element at each place.
func (r received) fits(pair Far) bool {
	switch {
	case len(pair.Q) > r.longest() || len(pair.E) > r.radius+1:
		return false
	case r.f.Check(pair.Q) != api.OK || r.f.Check(pair.E) != api.OK:
		return false
	case len(pair.Q) == 0 && len(pair.E) == 0:
		return false
	}
	q, e := valuesAt(r.f, r.points, pair.Q), valuesAt(r.f, r.points, pair.E)
	for i, a := range r.elements {
		if q[i] != r.f.Mul(e[i], a) {
			return false
		}
	}
	return true
}

// Decode returns the word of the code within the radius of w; ErrShape; ErrArg; or ErrFar if there is none.
func Decode(c Code, w, erased []int) ([]int, api.Errno) {
	r, e := receive(c, w, erased)
	if e != api.OK {
		return nil, e
	}
	p, near := r.quotient(r.pair())
	if !near {
		return nil, api.ErrFar
	}
	return valuesAt(r.f, c.Points, p), api.OK
}

// Deny returns a far pair, if Decode returns ErrFar.
func Deny(c Code, w, erased []int) (Far, bool) {
	r, e := receive(c, w, erased)
	if e != api.OK {
		return Far{}, false
	}
	pair := r.pair()
	if _, near := r.quotient(pair); near {
		return Far{}, false
	}
	return pair, true
}

// Denies reports whether f is a far pair.
func Denies(c Code, w, erased []int, f Far) bool {
	r, e := receive(c, w, erased)
	if e != api.OK || !r.fits(f) {
		return false
	}
	_, near := r.quotient(f)
	return !near
}
