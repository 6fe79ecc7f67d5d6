package chance

import (
	"slices"

	"dauber/api"
	"dauber/tally"
)

const (
	minNumbers = 2
	maxNumbers = 90
	maxLength  = 10 // of a pattern
)

// checkPatterns returns ErrArg if m is not from 2 to 90, or ErrPattern if one of the patterns is not valid.
func checkPatterns(m int, patterns ...[]int) api.Errno {
	if m < minNumbers || m > maxNumbers {
		return api.ErrArg
	}
	for _, pattern := range patterns {
		if len(pattern) < 1 || len(pattern) > maxLength {
			return api.ErrPattern
		}
		if slices.Min(pattern) < 0 || slices.Max(pattern) >= m {
			return api.ErrPattern
		}
	}
	return api.OK
}

// Wait returns how many draws it takes on the average until the last ones are the pattern, which is its lead over itself (Conway); ErrArg if m is not from 2 to 90; or ErrPattern.
func Wait(m int, a []int) (tally.Int, api.Errno) {
	return Lead(m, a, a)
}

// Lead returns the sum of m^k over all k for which the last k numbers of a are the first k of b; ErrArg if m is not from 2 to 90; or ErrPattern.
func Lead(m int, a, b []int) (tally.Int, api.Errno) {
	if e := checkPatterns(m, a, b); e != api.OK {
		return tally.Int{}, e
	}
	var lead tally.Int
	for k := 1; k <= min(len(a), len(b)); k++ {
		if slices.Equal(a[len(a)-k:], b[:k]) {
			power, _ := tally.Of(int64(m)).Pow(k)
			lead, _ = lead.Add(power)
		}
	}
	return lead, api.OK
}
