package chance

import (
	"dauber/api"
	"dauber/tally"
)

// IsUpper reports whether h is an upper proof of p.
func IsUpper(p [][]tally.Rat, h []tally.Rat) bool {
	if Check(p) != api.OK || len(h) != len(p) {
		return false
	}
	excess := chain(p).excess(h, 1)
	for i, isEnd := range chain(p).ends() {
		if h[i].Sign() < 0 || !isEnd && excess(i) < 0 {
			return false
		}
	}
	return true
}

// IsLower reports whether h is a lower proof of p.
func IsLower(p [][]tally.Rat, h []tally.Rat) bool {
	if Check(p) != api.OK || len(h) != len(p) {
		return false
	}
	excess := chain(p).excess(h, 1)
	for i, isEnd := range chain(p).ends() {
		if isEnd && h[i].Sign() > 0 || !isEnd && excess(i) > 0 {
			return false
		}
	}
	return true
}

// IsValue reports whether v is a value proof of p with the rewards f.
func IsValue(p [][]tally.Rat, f, v []tally.Rat) bool {
	if Check(p) != api.OK || len(f) != len(p) || len(v) != len(p) {
		return false
	}
	excess := chain(p).excess(v, 0)
	for i, isEnd := range chain(p).ends() {
		profit := v[i].Cmp(f[i])
		if !isEnd {
			// The greater one of two numbers exceeds neither of them by less than 0, and one by 0.
			profit = min(profit, excess(i))
		}
		if profit != 0 {
			return false
		}
	}
	return true
}

// excess returns a function for the sign of what the value of a state is above the average of the values after a step and the toll for that.
func (c chain) excess(values []tally.Rat, toll int64) func(i int) int {
	s := newLongs()
	over, under := s.overOne(values)
	toPay := s.product(s.of(tally.Of(toll)), under)
	return func(i int) int {
		chances, whole := s.overOne(c[i])
		rest := s.product(whole, s.difference(over[i], toPay))
		for j, chance := range chances {
			rest = s.difference(rest, s.product(chance, over[j]))
		}
		return rest.sign()
	}
}
