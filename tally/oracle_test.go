package tally_test

import (
	"math"
	"math/big"
	"math/rand/v2"
	"reflect"
	"strconv"
	"testing"

	"dauber/api"
	"dauber/tally"
)

// The tests compare the package with math/big.

// extremes are the int64 that are most easily got wrong.
func extremes() []int64 {
	return []int64{math.MinInt64, math.MinInt64 + 1, -1 << 32, -10, -7, -3, -2, -1, 0, 1, 2, 3, 7, 10, 1 << 32, math.MaxInt64 - 1, math.MaxInt64}
}

// must returns the result of a call that is expected to succeed.
func must[N any](result N, e api.Errno) N {
	if e != api.OK {
		panic("error " + strconv.Itoa(int(e)))
	}
	return result
}

func fromBig(b *big.Int) tally.Int {
	return integer(b.String())
}

func integer(s string) tally.Int {
	return must(tally.Parse(s))
}

func fraction(s string) tally.Rat {
	return must(tally.ParseRat(s))
}

// powerOfTwo returns 2^n + more.
func powerOfTwo(n uint, more int64) *big.Int {
	b := new(big.Int).Lsh(big.NewInt(1), n)
	return b.Add(b, big.NewInt(more))
}

// greatest returns the greatest small integer.
func greatest() *big.Int {
	return powerOfTwo(api.MaxBits, -1)
}

func newRandom() *rand.Rand {
	return rand.New(rand.NewPCG(90, 15))
}

// anyBig returns a random integer of up to the given number of words, many of which are at the ends of their range, where carries and borrows occur.
func anyBig(r *rand.Rand, words int) *big.Int {
	b := new(big.Int)
	for range r.IntN(words + 1) {
		edges := []uint64{0, 1, 1 << 63, 1<<63 - 1, math.MaxUint64, math.MaxUint64 - 1, r.Uint64(), r.Uint64()}
		b.Lsh(b, 64)
		b.Or(b, new(big.Int).SetUint64(edges[r.IntN(len(edges))]))
	}
	b.Rsh(b, uint(r.IntN(64)))
	if r.IntN(2) == 0 {
		b.Neg(b)
	}
	return b
}

func expectInt(t *testing.T, what string, got tally.Int, e api.Errno, want string) {
	t.Helper()
	if e != api.OK || got.String() != want {
		t.Errorf("%s: %.60s, %d; want %.60s", what, got, e, want)
	}
}

func expectRat(t *testing.T, what string, got tally.Rat, e api.Errno, want string) {
	t.Helper()
	if e != api.OK || got.String() != want {
		t.Errorf("%s: %.60s, %d; want %.60s", what, got, e, want)
	}
}

// expectError checks the error, and that the result beside it is the zero value.
func expectError(t *testing.T, what string, got any, e, want api.Errno) {
	t.Helper()
	if e != want || !reflect.ValueOf(got).IsZero() {
		t.Errorf("%s: %.60v, %d; want the zero value, %d", what, got, e, want)
	}
}
