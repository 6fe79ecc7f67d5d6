package design

import (
	"slices"

	"dauber/api"
)

const maxDifference = 10000 // points

// areDifferent reports whether the list has numbers from 0 to v - 1 only, each at most once.
func areDifferent(v int, list []int) bool {
	seen := make([]bool, v)
	for _, x := range list {
		if x < 0 || x >= v || seen[x] {
			return false
		}
		seen[x] = true
	}
	return true
}

// IsDifference reports whether d is a difference set for v, which is from 3 to 10000, and some l, and returns that.
func IsDifference(v int, d []int) (l int, ok bool) {
	if v < minPoints || v > maxDifference || len(d) >= v || !areDifferent(v, d) {
		return 0, false
	}
	counts := make([]int, v)
	for _, x := range d {
		for _, y := range d {
			if x < y {
				counts[x-y+v]++
			} else {
				counts[x-y]++
			}
		}
	}
	l = counts[1]
	for _, count := range counts[1:] {
		if count != l || count == 0 {
			return 0, false
		}
	}
	return l, true
}

// Develop returns the development of a list of at least 1 different numbers from 0 to v - 1, or ErrArg if it is none, or v is not from 3 to 200.
func Develop(v int, d []int) ([][]int, api.Errno) {
	if !isPointCount(v) || len(d) == 0 || !areDifferent(v, d) {
		return nil, api.ErrArg
	}
	blocks := make([][]int, v)
	for i := range blocks {
		for _, x := range d {
			blocks[i] = append(blocks[i], (x+i)%v)
		}
		slices.Sort(blocks[i])
	}
	return blocks, api.OK
}
