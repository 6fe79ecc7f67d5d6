package hall

import (
	"slices"

	"dauber/api"
)

// highest is the last number that can be called; the first one is 1.
const highest = 90

// uncalled returns the numbers that are not called, rising.
func (n *Night) uncalled() []int {
	var list []int
	for number := 1; number <= highest; number++ {
		if !slices.Contains(n.calls, number) {
			list = append(list, number)
		}
	}
	return list
}

// call calls a number.
func (n *Night) call(number int) (string, error) {
	if number < 1 || number > highest {
		return refuse(api.ErrArg)
	}
	if n.closed || n.draw != nil || slices.Contains(n.calls, number) {
		return refuse(api.ErrState)
	}
	n.come(number)
	return ok, nil
}

// come adds a called number, after prizes that were won are paid.
func (n *Night) come(number int) {
	n.pay()
	n.calls = append(n.calls, number)
}

// close ends the calls.
func (n *Night) close() (string, error) {
	if n.closed || n.draw != nil {
		return refuse(api.ErrState)
	}
	n.pay()
	n.closed = true
	return ok, nil
}
