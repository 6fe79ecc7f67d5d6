package share

import "dauber/api"

const (
	leastPrime = 3
	maxR       = 1<<31 - 1
	maxP       = 65521
)

// Group is a group of prime order: its elements are the P powers of G modulo R.
type Group struct {
	R, P, G int64
}

func (g Group) number(n int64) number {
	return number{n, g.P}
}

func (g Group) residue(x int64) residue {
	return residue{x, g.R}
}

// isNumber reports whether n is from 0 to P - 1.
func (g Group) isNumber(n int64) bool {
	return n >= 0 && n < g.P
}

func (g Group) areNumbers(list ...int64) bool {
	for _, n := range list {
		if !g.isNumber(n) {
			return false
		}
	}
	return true
}

// isElement reports whether x is a power of G. Since R is a prime, no other numbers have 1 as their power by P.
func (g Group) isElement(x int64) bool {
	return x > 0 && x < g.R && g.raised(g.residue(x), g.P) == g.residue(1)
}

// raised returns the n-th power of an element.
func (g Group) raised(x residue, n int64) residue {
	return power(g.residue(1), x, n, residue.times)
}

// generated returns the n-th power of G.
func (g Group) generated(n int64) residue {
	return g.raised(g.residue(g.G), n)
}

// Check returns ErrGroup if g is no group of prime order.
func Check(g Group) api.Errno {
	switch {
	case g.R < leastPrime || g.R > maxR || g.P < leastPrime || g.P > maxP || g.G < 2:
		return api.ErrGroup
	case (g.R-1)%g.P != 0 || !isPrime(g.R) || !isPrime(g.P) || !g.isElement(g.G):
		return api.ErrGroup
	}
	return api.OK
}

// Find returns the group of the order p with the least R, and a power of the least number for G, or ErrArg if p is not a prime from 3 to 65521.
func Find(p int64) (Group, api.Errno) {
	if p < leastPrime || p > maxP || !isPrime(p) {
		return Group{}, api.ErrArg
	}
	// R is odd, and so leaves 1 when divided by 2 p, too.
	g := Group{R: 2*p + 1, P: p}
	for !isPrime(g.R) {
		g.R += 2 * p
	}
	generator := g.residue(1)
	for h := int64(2); generator == g.residue(1); h++ {
		generator = g.raised(g.residue(h), (g.R-1)/p)
	}
	g.G = generator.value
	return g, api.OK
}

// Power returns the n-th power of G; ErrGroup; or ErrArg if n is not from 0 to P - 1.
func (g Group) Power(n int64) (int64, api.Errno) {
	if e := Check(g); e != api.OK {
		return 0, e
	}
	if !g.isNumber(n) {
		return 0, api.ErrArg
	}
	return g.generated(n).value, api.OK
}

// Has reports whether x is an element of the group.
func (g Group) Has(x int64) bool {
	return Check(g) == api.OK && g.isElement(x)
}
