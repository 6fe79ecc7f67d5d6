package field

// residues multiplies elements as polynomials, digit by digit: that is slow, but needs no tables.
type residues struct {
	prime int
	last  int // the number of the polynomial x^(k - 1)
	over  int // what x^k is, as an element
}

// newResidues returns the residues modulo the polynomial that has that number.
func newResidues(prime, order, modulus int) residues {
	r := residues{prime: prime, last: order / prime}
	r.over = r.multiple(modulus-order, prime-1)
	return r
}

func (r residues) sum(a, b int) int {
	if r.prime == 2 {
		return a ^ b
	}
	result, unit := 0, 1
	for b > 0 {
		digit := a%r.prime + b%r.prime
		if digit >= r.prime {
			digit -= r.prime
		}
		result += digit * unit
		a, b, unit = a/r.prime, b/r.prime, unit*r.prime
	}
	return result + a*unit
}

// multiple returns a times a digit.
func (r residues) multiple(a, digit int) int {
	if digit < 2 {
		return a * digit
	}
	result := 0
	for unit := 1; a > 0; unit *= r.prime {
		result += a % r.prime * digit % r.prime * unit
		a /= r.prime
	}
	return result
}

// shifted returns a times x.
func (r residues) shifted(a int) int {
	return r.sum(a%r.last*r.prime, r.multiple(r.over, a/r.last))
}

func (r residues) product(a, b int) int {
	if b == 0 {
		return 0
	}
	return r.sum(r.multiple(a, b%r.prime), r.shifted(r.product(a, b/r.prime)))
}
