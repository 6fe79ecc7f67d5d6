package field

// arithmetic is how the elements of a field are calculated with.
type arithmetic interface {
	sum(a, b int) int
	product(a, b int) int
	power(a, n int) int  // n is at least 0, and greater than 0 if a is 0
	logarithm(a int) int // a is not 0
}

// remainders is the arithmetic of a field whose order is a prime.
type remainders struct {
	prime, generator int
}

func (r remainders) sum(a, b int) int {
	return (a + b) % r.prime
}

func (r remainders) product(a, b int) int {
	return a * b % r.prime
}

func (r remainders) power(a, n int) int {
	return power(a, n, r.product)
}

// logarithm meets a times a small power of the generator among the powers by large steps.
func (r remainders) logarithm(a int) int {
	step := 1
	for step*step < r.prime {
		step++
	}
	small := make(map[int]int, step)
	for n := range step {
		small[a] = n
		a = r.product(a, r.generator)
	}
	stride := r.power(r.generator, step)
	large, n := stride, step
	for {
		if less, met := small[large]; met {
			return (n - less) % (r.prime - 1)
		}
		large = r.product(large, stride)
		n += step
	}
}

// tables is the arithmetic of a field whose order is no prime: of each element but 0 the logarithm is known. They have two bytes each, since a field has at most api.MaxOrder elements.
type tables struct {
	prime  int
	powers []uint16 // of the generator
	logs   []uint16
}

// newTables fills tables by the function that multiplies an element by the generator.
func newTables(prime, order int, next func(int) int) tables {
	t := tables{prime, make([]uint16, order-1), make([]uint16, order)}
	a := 1
	for n := range t.powers {
		t.powers[n] = uint16(a)
		t.logs[a] = uint16(n)
		a = next(a)
	}
	return t
}

func (t tables) sum(a, b int) int {
	switch {
	case t.prime == 2:
		return a ^ b
	case a == 0:
		return b
	case b == 0:
		return a
	}
	// a + b is a times 1 + b / a, and 1 is added to the first digit alone.
	ratio := t.generated(int(t.logs[b]) - int(t.logs[a]) + len(t.powers))
	if ratio%t.prime == t.prime-1 {
		ratio -= t.prime
	}
	return t.product(a, ratio+1)
}

func (t tables) product(a, b int) int {
	if a == 0 || b == 0 {
		return 0
	}
	return t.generated(int(t.logs[a]) + int(t.logs[b]))
}

func (t tables) power(a, n int) int {
	if a == 0 {
		return 0
	}
	return t.generated(int(t.logs[a]) * n)
}

func (t tables) logarithm(a int) int {
	return int(t.logs[a])
}

// generated returns the n-th power of the generator.
func (t tables) generated(n int) int {
	return int(t.powers[n%len(t.powers)])
}
