package design

import (
	"slices"

	"dauber/api"
	"dauber/field"
)

const maxPlane = 13

// isPlaneOrder reports whether the order is from 2 to 13 and that of a field.
func isPlaneOrder(order int) bool {
	if order > maxPlane {
		return false
	}
	_, e := field.New(order)
	return e == api.OK
}

// point is a point of a plane, or a line: the points on it are those whose products with it add up to 0. Its multiples are the same point.
type point [3]int

// normal returns the multiple whose first element that is not 0 is 1.
func (p point) normal(f *field.Field) point {
	for _, first := range p {
		if first == 0 {
			continue
		}
		for i, x := range p {
			p[i], _ = f.Div(x, first)
		}
		break
	}
	return p
}

func (p point) isOn(f *field.Field, line point) bool {
	sum := 0
	for i, x := range p {
		sum = f.Add(sum, f.Mul(x, line[i]))
	}
	return sum == 0
}

// pointsOver returns the points of the plane over the field, each once.
func pointsOver(f *field.Field) []point {
	var points []point
	for x := range f.Order() {
		for y := range f.Order() {
			for z := range f.Order() {
				p := point{x, y, z}
				if p != (point{}) && p == p.normal(f) {
					points = append(points, p)
				}
			}
		}
	}
	return points
}

// Plane returns the lines of a plane: the blocks of a design with K = order + 1 and L = 1; or ErrNone if the order is not from 2 to 13 and that of a field.
func Plane(order int) ([][]int, api.Errno) {
	if !isPlaneOrder(order) {
		return nil, api.ErrNone
	}
	f, _ := field.New(order)
	points := pointsOver(f)
	lines := make([][]int, len(points))
	for l, line := range points {
		for i, p := range points {
			if p.isOn(f, line) {
				lines[l] = append(lines[l], i)
			}
		}
	}
	return inOrder(lines), api.OK
}

// Singer returns a difference set of order + 1 elements with L = 1, rising, that has 0 and 1; or ErrNone if the order is not from 2 to 13 and that of a field.
func Singer(order int) ([]int, api.Errno) {
	if !isPlaneOrder(order) {
		return nil, api.ErrNone
	}
	f, _ := field.New(order * order * order)
	v, g := order*order+order+1, f.Generator()
	// The field has that of the order in it: 0 and the powers of g whose exponents are multiples of v. Up to multiples by these elements, the powers of g are the points of a plane, and multiplication by g moves lines to lines. One line has 1, g, and the sums of g and such an element that is not 0.
	d := []int{0, 1}
	for i := range order - 1 {
		element, _ := f.Pow(g, int64(i*v))
		n, _ := f.Log(f.Add(g, element))
		d = append(d, n%v)
	}
	slices.Sort(d)
	return d, api.OK
}
