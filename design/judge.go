package design

import (
	"dauber/api"
	"dauber/tally"
)

// Verdict says whether there can be a design. With Place there is the place at which an equation has no solution; with Open, and as many blocks as points, which are odd, there is a solution of it.
type Verdict struct {
	Code, Place int
	X, Y, Z     tally.Int
}

// The codes of a verdict, in the order in which they apply; Open applies if no other one does.
const (
	Open = iota
	Divides
	Fisher
	Square
	Place
)

const (
	maxJudged   = 10000 // points
	maxTogether = 10000
)

// Judge returns the verdict on designs of v points with k in each block, any two of them together in l blocks; or ErrArg if v is not from 3 to 10000, k not from 2 to v - 1, or l not from 1 to 10000.
func Judge(v, k, l int) (Verdict, api.Errno) {
	if v < minPoints || v > maxJudged || k < 2 || k >= v || l < 1 || l > maxTogether {
		return Verdict{}, api.ErrArg
	}
	r := l * (v - 1) / (k - 1)
	b := v * r / k
	switch {
	case l*(v-1)%(k-1) != 0 || v*r%k != 0:
		return Verdict{Code: Divides}, api.OK
	case b < v:
		return Verdict{Code: Fisher}, api.OK
	case b > v:
		return Verdict{Code: Open}, api.OK
	}
	return judgeSymmetric(v, int64(k), int64(l)), api.OK
}

// judgeSymmetric returns the verdict on designs with as many blocks as points, for which l is less than k.
func judgeSymmetric(v int, k, l int64) Verdict {
	if v%2 == 0 {
		if rest, _ := withoutSquare(k - l); rest != 1 {
			return Verdict{Code: Square}
		}
		return Verdict{Code: Open}
	}
	a, b := k-l, l
	if v%4 == 3 {
		b = -b
	}
	if place, is := obstacle(a, b); is {
		return Verdict{Code: Place, Place: place}
	}
	x, y, z := solution(a, b)
	return Verdict{Code: Open, X: x, Y: y, Z: z}
}
