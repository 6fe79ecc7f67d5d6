package share_test

import (
	"fmt"
	"math"
	"math/rand/v2"

	"dauber/api"
	"dauber/share"
)

// found returns the group that Find makes.
func found(p int64) share.Group {
	g, e := share.Find(p)
	if e != api.OK {
		panic("no group")
	}
	return g
}

// withPower returns the group in which G is a power of the first of the numbers h, h + step, .. that makes one.
func withPower(r, p, h, step int64) share.Group {
	for raised(h, (r-1)/p, r) == 1 {
		h += step
	}
	return share.Group{R: r, P: p, G: raised(h, (r-1)/p, r)}
}

// below returns the group of the order p with the greatest prime R that is not above a limit, and G a power of the greatest possible number.
func below(limit, p int64) share.Group {
	r := limit - (limit-1)%p
	for !isPrime(r) {
		r -= p
	}
	return withPower(r, p, r-1, -1)
}

// smallGroups have few elements, so that all of them can be tried.
func smallGroups() []share.Group {
	return []share.Group{
		{R: 7, P: 3, G: 4},
		{R: 7, P: 3, G: 2},
		{R: 13, P: 3, G: 9},
		{R: 11, P: 5, G: 4},
		{R: 31, P: 5, G: 2},
		{R: 29, P: 7, G: 16},
		{R: 43, P: 7, G: 4},
		{R: 23, P: 11, G: 4},
		{R: 23, P: 11, G: 13},
	}
}

// largestGroup has numbers whose products are just below 2^62.
func largestGroup() share.Group {
	return below(math.MaxInt32, 331)
}

// groups are of all sizes: some with less elements than there can be halls, some with R as great as can be.
func groups() []share.Group {
	list := smallGroups()
	for _, p := range []int64{13, 61, 67, 71, 101, 257, 4093, 65519, 65521} {
		list = append(list, found(p), below(math.MaxInt32, p))
	}
	return append(list, largestGroup(), below(math.MaxInt32, 3))
}

// badGroups are none, most of them for one reason alone.
func badGroups() map[string]share.Group {
	g := found(11)
	bad := map[string]share.Group{
		"nothing":                    {},
		"R negative":                 {R: -23, P: 11, G: 4},
		"R 0":                        {R: 0, P: 11, G: 4},
		"R 1":                        {R: 1, P: 11, G: 4},
		"R 2":                        {R: 2, P: 11, G: 4},
		"R 1, G 1":                   {R: 1, P: 3, G: 1},
		"R 2, G 1":                   {R: 2, P: 3, G: 1},
		"R the least number":         {R: math.MinInt64, P: 11, G: 4},
		"R the greatest number":      {R: math.MaxInt64, P: 7, G: 2},
		"R another prime":            {R: 29, P: 11, G: 4},
		"P negative":                 {R: 23, P: -11, G: 4},
		"P 0":                        {R: 23, P: 0, G: 4},
		"P 1":                        {R: 23, P: 1, G: 4},
		"P 2":                        {R: 23, P: 2, G: 22},
		"P 2, R 3":                   {R: 3, P: 2, G: 2},
		"P 9":                        {R: 19, P: 9, G: 4},
		"P 22":                       {R: 23, P: 22, G: 5},
		"P 15":                       {R: 31, P: 15, G: 9},
		"P another prime":            {R: 23, P: 7, G: 4},
		"P that does not divide":     {R: 31, P: 11, G: 4},
		"P R":                        {R: 23, P: 23, G: 4},
		"P the greatest number":      {R: 23, P: math.MaxInt64, G: 4},
		"P the least number":         {R: 23, P: math.MinInt64, G: 4},
		"P of 63 bits":               {R: 23, P: 11 + 1<<62, G: 4},
		"G 0":                        {R: 23, P: 11, G: 0},
		"G 1":                        {R: 23, P: 11, G: 1},
		"G R - 1":                    {R: 23, P: 11, G: 22},
		"G R":                        {R: 23, P: 11, G: 23},
		"G R + 1":                    {R: 23, P: 11, G: 24},
		"G above R":                  {R: 23, P: 11, G: 27},
		"G negative":                 {R: 23, P: 11, G: -19},
		"G -1":                       {R: 23, P: 11, G: -1},
		"G of another order":         {R: 23, P: 11, G: 5},
		"G of the order of all":      {R: 31, P: 5, G: 3},
		"G the greatest number":      {R: 23, P: 11, G: math.MaxInt64},
		"G the least number":         {R: 23, P: 11, G: math.MinInt64},
		"G of 63 bits":               {R: 23, P: 11, G: 4 + 23<<57},
		"R too great":                above(math.MaxInt32, 331),
		"R too great for an int32":   {R: g.R + 1<<32, P: 11, G: 4},
		"R of 32 bits":               above(1<<31, 11),
		"R of 63 bits":               above(1<<62, 3),
		"P too great":                below(math.MaxInt32, 65537),
		"P too great for an int32":   {R: 23, P: 11 + 1<<32, G: 4},
		"P far too great":            below(math.MaxInt32, 1000003),
		"all numbers the same":       {R: 23, P: 23, G: 23},
		"all numbers of 63 bits":     {R: math.MaxInt64, P: math.MaxInt64, G: math.MaxInt64},
		"all numbers of 63 bits, -1": {R: math.MinInt64, P: math.MinInt64, G: math.MinInt64},
	}
	for _, r := range composites() {
		bad[fmt.Sprint("R the composite number ", r)] = composite(r)
	}
	return bad
}

// composites are numbers that are hard to tell from primes: Carmichael's, pseudoprimes to the bases 2, to 2 and 3, and to 2, 3 and 5, a square, and a product of two great primes.
func composites() []int64 {
	a := below(46340, 3).R
	b := below(a-1, 3).R
	return []int64{91, 561, 1729, 252601, 2047, 1373653, 25326001, 161304001, 960946321, 1157839381, 43 * 43, a * b}
}

// composite returns what would be a group, but for R, which is no prime.
func composite(r int64) share.Group {
	p := int64(3)
	for (r-1)%p != 0 || !isPrime(p) || totient(r)%p != 0 {
		p += 2
	}
	rest := totient(r)
	for rest%p == 0 {
		rest /= p
	}
	// The order of a power by the rest is a power of p.
	h := int64(2)
	for raised(h, totient(r), r) != 1 || raised(h, rest, r) == 1 {
		h++
	}
	x := raised(h, rest, r)
	for raised(x, p, r) != 1 {
		x = raised(x, p, r)
	}
	return share.Group{R: r, P: p, G: x}
}

// totient returns how many of the numbers from 1 to n have no divisor but 1 in common with n.
func totient(n int64) int64 {
	result := n
	for d := int64(2); d*d <= n; d++ {
		if n%d == 0 {
			result -= result / d
		}
		for n%d == 0 {
			n /= d
		}
	}
	if n > 1 {
		result -= result / n
	}
	return result
}

// above returns what would be a group of the order p, but for its R, which is the least prime above a limit that p allows.
func above(limit, p int64) share.Group {
	r := limit + 1
	for (r-1)%p != 0 || !isPrime(r) {
		r++
	}
	return withPower(r, p, 2, 1)
}

// anyNumbers returns n numbers from 0 to p - 1, among which the least and the greatest are frequent.
func anyNumbers(r *rand.Rand, p int64, n int) []int64 {
	list := make([]int64, n)
	for i := range list {
		switch r.IntN(6) {
		case 0:
			list[i] = p - 1
		case 1:
			list[i] = 0
		default:
			list[i] = r.Int64N(p)
		}
	}
	return list
}

// anyXs returns n different numbers from 1 to p - 1.
func anyXs(r *rand.Rand, p int64, n int) []int64 {
	list := make([]int64, n)
	for i, x := range r.Perm(int(p - 1))[:n] {
		list[i] = int64(x + 1)
	}
	return list
}

// from returns the n numbers from first on.
func from(first int64, n int) []int64 {
	list := make([]int64, n)
	for i := range list {
		list[i] = first + int64(i)
	}
	return list
}

// spoiled returns the shares with wrong ones at so many places, and these places, rising.
func spoiled(r *rand.Rand, p int64, shares []int64, wrong int) ([]int64, []int) {
	result := append([]int64{}, shares...)
	for _, i := range r.Perm(len(shares))[:wrong] {
		result[i] = (shares[i] + 1 + r.Int64N(p-1)) % p
	}
	return result, differing(result, shares)
}
