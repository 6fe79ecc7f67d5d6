package field

import "dauber/api"

// primePower returns the prime and the degree of which the order is a power; ok is false if it is none, or not from 2 to api.MaxOrder.
func primePower(order int) (prime, degree int, ok bool) {
	if order < 2 || order > api.MaxOrder {
		return 0, 0, false
	}
	factors := primeFactors(order)
	if len(factors) > 1 {
		return 0, 0, false
	}
	prime = factors[0]
	for ; order > 1; order /= prime {
		degree++
	}
	return prime, degree, true
}

// primeFactors returns the different primes that divide n, which is at least 1, rising.
func primeFactors(n int) []int {
	var factors []int
	for d := 2; d*d <= n; d++ {
		if n%d == 0 {
			factors = append(factors, d)
		}
		for n%d == 0 {
			n /= d
		}
	}
	if n > 1 {
		factors = append(factors, n)
	}
	return factors
}

// digits returns the digits of a number to the base, the least significant one first and the last one not 0.
func digits(number, base int) []int {
	var list []int
	for ; number > 0; number /= base {
		list = append(list, number%base)
	}
	return list
}

// power returns the n-th power of a, n being at least 0, by squares and products.
func power(a, n int, product func(a, b int) int) int {
	result := 1
	for ; n > 0; n /= 2 {
		if n%2 == 1 {
			result = product(result, a)
		}
		a = product(a, a)
	}
	return result
}

// leastGenerator returns the least of the elements 1 to order - 1 whose powers by that product are all of them.
func leastGenerator(order int, product func(a, b int) int) int {
	factors := primeFactors(order - 1)
candidates:
	for a := 1; ; a++ {
		for _, factor := range factors {
			if power(a, (order-1)/factor, product) == 1 {
				continue candidates
			}
		}
		return a
	}
}
