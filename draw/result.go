package draw

import "dauber/api"

// read returns a judge who has read the board, or the error of checkBoard.
func read(c Config, b Board, blame func(hall, why, line int)) (*judge, api.Errno) {
	if e := checkBoard(c, b, maxLines); e != api.OK {
		return nil, e
	}
	return judged(c, b, blame), api.OK
}

// those returns the halls of which something is so, rising, or the error of checkBoard.
func those(c Config, b Board, so func(j *judge, hall int) bool) ([]int, api.Errno) {
	j, e := read(c, b, blameless)
	if e != api.OK {
		return nil, e
	}
	var halls []int
	for hall := range j.records {
		if so(j, hall) {
			halls = append(halls, hall)
		}
	}
	return halls, api.OK
}

// Dealt returns the halls that have a deal, rising; the error of Check; or ErrLong.
func Dealt(c Config, b Board) ([]int, api.Errno) {
	return those(c, b, (*judge).hasDeal)
}

// In returns the halls that are in, rising; the error of Check; or ErrLong.
func In(c Config, b Board) ([]int, api.Errno) {
	return those(c, b, (*judge).isIn)
}

// Secret returns the secret of a hall; the error of Check; ErrLong; or ErrNone if the hall is not in, or its secret is not known.
func Secret(c Config, b Board, hall int) (int64, api.Errno) {
	j, e := read(c, b, blameless)
	if e != api.OK {
		return 0, e
	}
	if !j.isHall(hall) || !j.isIn(hall) {
		return 0, api.ErrNone
	}
	secret, known := j.secret(hall)
	if !known {
		return 0, api.ErrNone
	}
	return secret, api.OK
}

// Sum returns the sum of the secrets; the error of Check; ErrLong; or ErrNone if no hall is in, or a secret is not known.
func Sum(c Config, b Board) (int64, api.Errno) {
	j, e := read(c, b, blameless)
	if e != api.OK {
		return 0, e
	}
	sum, known := j.sum()
	if !known {
		return 0, api.ErrNone
	}
	return sum, api.OK
}

// Ball returns the ball, from 1 to Balls, or the error of Sum.
func Ball(c Config, b Board) (int, api.Errno) {
	sum, e := Sum(c, b)
	if e != api.OK {
		return 0, e
	}
	return 1 + int(sum%int64(c.Balls)), api.OK
}
