package code

import (
	"dauber/api"
	"dauber/field"
)

const maxSequence = 200

// checkSequence returns ErrField, ErrLong if s has more than 200 elements, or ErrArg if one is none.
func checkSequence(order int, s []int) api.Errno {
	if e := checkOrder(order); e != api.OK {
		return e
	}
	switch {
	case len(s) > maxSequence:
		return api.ErrLong
	case !areBelow(order, s):
		return api.ErrArg
	}
	return api.OK
}

// A register with the taps c1, c2, .. is calculated with as the polynomial 1 + c1 x + c2 x^2 + ..

// difference returns s(i) + c1 s(i - 1) + c2 s(i - 2) + .., of a register with at most i taps.
func difference(f *field.Field, register, s []int, i int) int {
	total := 0
	for j, c := range register {
		total = f.Add(total, f.Mul(c, s[i-j]))
	}
	return total
}

// correction returns the function that corrects a register that has a difference at an element: by so large a multiple of an old one, which had the last difference at an earlier element, that the difference becomes 0.
func correction(f *field.Field, old []int, last, since int) func(register []int, difference, at int) []int {
	return func(register []int, difference, at int) []int {
		ratio, _ := f.Div(difference, last)
		return plusMultiple(f, register, old, f.Sub(0, ratio), at-since)
	}
}

// shortest returns the taps of a shortest register that makes s, and how many taps the shortest one has for each beginning of s (Berlekamp, Massey).
func shortest(f *field.Field, s []int) (taps, profile []int) {
	register, length := []int{1}, 0
	correct := correction(f, []int{1}, 1, -1)
	for i := range s {
		d := difference(f, register, s, i)
		if d != 0 {
			old := register
			register = correct(old, d, i)
			if 2*length <= i {
				correct = correction(f, old, d, i)
				length = i + 1 - length
			}
		}
		profile = append(profile, length)
	}
	return padded(register, length+1)[1:], profile
}

// Shortest returns the taps of a register with the fewest taps that makes s; ErrField; ErrLong; or ErrArg.
func Shortest(order int, s []int) ([]int, api.Errno) {
	if e := checkSequence(order, s); e != api.OK {
		return nil, e
	}
	f, _ := field.New(order)
	taps, _ := shortest(f, s)
	return taps, api.OK
}

// Profile returns for each beginning of s how many taps the shortest register has that makes it; ErrField; ErrLong; or ErrArg.
func Profile(order int, s []int) ([]int, api.Errno) {
	if e := checkSequence(order, s); e != api.OK {
		return nil, e
	}
	f, _ := field.New(order)
	_, profile := shortest(f, s)
	return profile, api.OK
}

// Makes reports whether the register with these taps makes s; ErrField; ErrLong; or ErrArg.
func Makes(order int, taps, s []int) (bool, api.Errno) {
	if e := checkSequence(order, s); e != api.OK {
		return false, e
	}
	if len(taps) > len(s) || !areBelow(order, taps) {
		return false, api.ErrArg
	}
	f, _ := field.New(order)
	register := append([]int{1}, taps...)
	for i := len(taps); i < len(s); i++ {
		if difference(f, register, s, i) != 0 {
			return false, api.OK
		}
	}
	return true, api.OK
}
