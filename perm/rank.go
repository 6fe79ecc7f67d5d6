package perm

import (
	"slices"

	"dauber/api"
)

// Rank returns the number of permutations of as many points that come before a, or ErrPerm.
func Rank(a []int) (int64, api.Errno) {
	if e := Check(a); e != api.OK {
		return 0, e
	}
	var rank int64
	for i, x := range a {
		less := 0
		for _, y := range a[i+1:] {
			if y < x {
				less++
			}
		}
		rank = rank*int64(len(a)-i) + int64(less)
	}
	return rank, api.OK
}

// Unrank returns the permutation of n points with that rank; ErrPerm if n is not from 1 to api.MaxPoints; or ErrArg if the rank is not from 0 to n! - 1.
func Unrank(n int, rank int64) ([]int, api.Errno) {
	switch {
	case n < 1 || n > api.MaxPoints:
		return nil, api.ErrPerm
	case rank < 0:
		return nil, api.ErrArg
	}
	// Element i - 1 of places is how many of the i points that are left come before the one that is taken of them.
	places := make([]int64, n)
	for i := range places {
		places[i] = rank % int64(i+1)
		rank /= int64(i + 1)
	}
	if rank > 0 {
		return nil, api.ErrArg
	}
	left := identity().list(n)
	var p []int
	for _, place := range slices.Backward(places) {
		p = append(p, left[place])
		left = slices.Delete(left, int(place), int(place)+1)
	}
	return p, api.OK
}

// Shuffle returns what 0, .., n - 1 becomes when, for i from n - 1 down to 0, the elements i and draws(i) are exchanged; ErrPerm if n is not from 1 to api.MaxPoints; or ErrArg if a draw with number i is not from 0 to i.
func Shuffle(draws []int) ([]int, api.Errno) {
	if len(draws) < 1 || len(draws) > api.MaxPoints {
		return nil, api.ErrPerm
	}
	list := identity().list(len(draws))
	for i, draw := range slices.Backward(draws) {
		if draw < 0 || draw > i {
			return nil, api.ErrArg
		}
		list[i], list[draw] = list[draw], list[i]
	}
	return list, api.OK
}

// Draws returns the draws from which Shuffle makes a, or ErrPerm.
func Draws(a []int) ([]int, api.Errno) {
	if e := Check(a); e != api.OK {
		return nil, e
	}
	draws := make([]int, len(a))
	list := identity().list(len(a))
	// Element i stays as it is after its exchange.
	for i, x := range slices.Backward(a) {
		draws[i] = slices.Index(list, x)
		list[i], list[draws[i]] = list[draws[i]], list[i]
	}
	return draws, api.OK
}
