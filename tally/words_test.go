package tally

import (
	"math"
	"math/big"
	"math/rand/v2"
	"slices"
	"testing"
	"unsafe"

	"dauber/api"
)

// The capacity of a number is its length, so that appending never writes into it.
func TestCutCapacity(t *testing.T) {
	memory := []uint64{5, 6, 0, 0, 9}
	number := cut(memory[:4])
	if len(number) != 2 || cap(number) != 2 {
		t.Errorf("length %d, capacity %d", len(number), cap(number))
	}
	_ = append(number, 7)
	if !slices.Equal(memory, []uint64{5, 6, 0, 0, 9}) {
		t.Errorf("appended into %v", memory)
	}
	if cut([]uint64{0, 0}) != nil || cut(nil) != nil {
		t.Errorf("0 has words")
	}
}

// R4: no result shares memory with an argument or with another result.
func TestResultsAreNewMemory(t *testing.T) {
	a, _ := Of(math.MaxInt64).Pow(5)
	b, _ := Of(math.MinInt64).Pow(3)
	r, _ := Make(a, b)
	if len(r.under) == 0 {
		t.Fatal("no denominator")
	}
	zero, one := Of(0), Of(1)
	unit, _ := Ratio(1, 1)
	var results [][]uint64
	keep := func(n Int, e api.Errno) { results = append(results, n.words) }
	keepRat := func(r Rat, e api.Errno) { results = append(results, r.over.words, r.under) }
	keep(a, api.OK)
	keep(b, api.OK)
	keepRat(r, api.OK)
	keep(a.Neg(), api.OK)
	keep(a.Add(zero))
	keep(a.Sub(zero))
	keep(a.Mul(one))
	keep(a.Pow(1))
	keep(Gcd(a, zero), api.OK)
	keep(Gcd(zero, a), api.OK)
	keep(Gcd(a, a), api.OK)
	quotient, rest, e := a.Div(one)
	keep(quotient, e)
	keep(rest, e)
	square, _ := a.Mul(a)
	quotient, rest, e = a.Div(square)
	keep(quotient, e)
	keep(rest, e)
	keep(r.Num(), api.OK)
	keep(r.Den(), api.OK)
	keepRat(Make(a, one))
	keepRat(Make(a, b))
	keepRat(r.Neg(), api.OK)
	keepRat(r.Add(Rat{}))
	keepRat(r.Sub(Rat{}))
	keepRat(r.Mul(unit))
	keepRat(r.Quo(unit))
	seen := map[*uint64]bool{}
	for i, words := range results {
		if len(words) == 0 {
			continue
		}
		if start := unsafe.SliceData(words); seen[start] {
			t.Errorf("result %d shares memory", i)
		} else {
			seen[start] = true
		}
		if cap(words) != len(words) {
			t.Errorf("result %d: length %d, capacity %d", i, len(words), cap(words))
		}
	}
}

func toBig(words []uint64) *big.Int {
	b := new(big.Int)
	for i := len(words) - 1; i >= 0; i-- {
		b.Lsh(b, 64)
		b.Or(b, new(big.Int).SetUint64(words[i]))
	}
	return b
}

// Words at the ends of their range make estimates of quotients that are too large.
func TestDivideWithBorrows(t *testing.T) {
	edges := []uint64{0, 1, 2, 1<<63 - 1, 1 << 63, 1<<63 + 1, math.MaxUint64 - 1, math.MaxUint64}
	r := rand.New(rand.NewPCG(1, 2))
	pick := func(n int) []uint64 {
		words := make([]uint64, n)
		for i := range words {
			words[i] = edges[r.IntN(len(edges))]
		}
		return cut(words)
	}
	for range 200000 {
		a, b := pick(5), pick(1+r.IntN(4))
		if len(b) == 0 {
			continue
		}
		quotient, rest := divide(a, b)
		wantQuotient, wantRest := new(big.Int).QuoRem(toBig(a), toBig(b), new(big.Int))
		if toBig(quotient).Cmp(wantQuotient) != 0 || toBig(rest).Cmp(wantRest) != 0 {
			t.Fatalf("divide(%v, %v): %v, %v", a, b, quotient, rest)
		}
	}
}

// A calculation leaves by a panic, and only yield turns it into an error.
func TestYield(t *testing.T) {
	over := Int{words: shiftLeft(oneWord(1), api.MaxBits)}
	if n, e := yield(over.small); e != api.ErrSize || n.words != nil {
		t.Errorf("%d", e)
	}
	under := Rat{over: Of(1), under: over.words}
	if r, e := yield(under.small); e != api.ErrSize || r.over.words != nil || r.under != nil {
		t.Errorf("%d", e)
	}
	top := Int{words: difference(over.words, oneWord(1))}
	if n, e := yield(top.small); e != api.OK || n.Cmp(top) != 0 {
		t.Errorf("%d", e)
	}
}
