package design

import "dauber/api"

// Params is the parameters of a design: how many points and blocks it has, in how many blocks a point is, how many points a block has, and in how many blocks two points are together.
type Params struct {
	V, B, R, K, L int
}

const (
	minPoints = 3
	maxPoints = 200
	maxBlocks = 2000
)

// Check returns the parameters of a design; ErrArg if v is not from 3 to 200; ErrLong if there are more than 2000 blocks; or ErrDesign if they are no design.
func Check(v int, blocks [][]int) (Params, api.Errno) {
	switch {
	case !isPointCount(v):
		return Params{}, api.ErrArg
	case len(blocks) > maxBlocks:
		return Params{}, api.ErrLong
	case !areBlocks(v, blocks):
		return Params{}, api.ErrDesign
	}
	l := together(v, blocks)
	if l == 0 {
		return Params{}, api.ErrDesign
	}
	k := len(blocks[0])
	return Params{V: v, B: len(blocks), R: l * (v - 1) / (k - 1), K: k, L: l}, api.OK
}

func isPointCount(v int) bool {
	return v >= minPoints && v <= maxPoints
}

// areBlocks reports whether there are blocks, all with the same number of points, from 2 to v - 1.
func areBlocks(v int, blocks [][]int) bool {
	if len(blocks) == 0 {
		return false
	}
	k := len(blocks[0])
	for _, block := range blocks {
		if len(block) != k || !isRising(v, block) {
			return false
		}
	}
	return k >= 2 && k < v
}

// isRising reports whether all numbers are points, each greater than the previous one.
func isRising(v int, block []int) bool {
	previous := -1
	for _, p := range block {
		if p <= previous || p >= v {
			return false
		}
		previous = p
	}
	return true
}

// together returns in how many blocks any two points are together, or 0 if that is not the same number for all of them.
func together(v int, blocks [][]int) int {
	counts := make([]int, v*v)
	for _, block := range blocks {
		for i, a := range block {
			for _, b := range block[i+1:] {
				counts[a*v+b]++
			}
		}
	}
	for a := range v {
		for b := a + 1; b < v; b++ {
			if counts[a*v+b] != counts[1] {
				return 0
			}
		}
	}
	return counts[1]
}

// Dual returns for each point the list of the blocks that have it, or the error of Check.
func Dual(v int, blocks [][]int) ([][]int, api.Errno) {
	if _, e := Check(v, blocks); e != api.OK {
		return nil, e
	}
	dual := make([][]int, v)
	for b, block := range blocks {
		for _, p := range block {
			dual[p] = append(dual[p], b)
		}
	}
	return dual, api.OK
}

// Complement returns for each block the list of the points that it does not have, or the error of Check.
func Complement(v int, blocks [][]int) ([][]int, api.Errno) {
	if _, e := Check(v, blocks); e != api.OK {
		return nil, e
	}
	others := make([][]int, len(blocks))
	for b, block := range blocks {
		for p := range v {
			if len(block) > 0 && block[0] == p {
				block = block[1:]
			} else {
				others[b] = append(others[b], p)
			}
		}
	}
	return others, api.OK
}
