package hall

import (
	"slices"

	"dauber/api"
	"dauber/cover"
)

const (
	maxGoal   = 3
	maxPrizes = 20
)

// prize has the claims that were accepted, in order, as long as it is not paid. A prize with claims is won.
type prize struct {
	goal   int
	amount int64
	claims []place
	isPaid bool
}

// putUp puts up a prize.
func (n *Night) putUp(goal, amount int64) (string, error) {
	switch {
	case goal < 1 || goal > maxGoal || amount <= 0:
		return refuse(api.ErrArg)
	case len(n.calls) > 0:
		return refuse(api.ErrState)
	case len(n.prizes) == maxPrizes:
		return refuse(api.ErrFull)
	}
	n.prizes = append(n.prizes, prize{goal: int(goal), amount: amount})
	return joined(ok, len(n.prizes)), nil
}

// claim accepts a ticket's claim for a prize, by its number.
func (n *Night) claim(at place, number int64) (string, error) {
	t, player, e := n.ticket(at)
	if e != nil {
		return "", e
	}
	if number < 1 || number > int64(len(n.prizes)) {
		return refuse(api.ErrNone)
	}
	p := &n.prizes[number-1]
	if n.closed || player == "" || p.isPaid || slices.Contains(p.claims, at) {
		return refuse(api.ErrState)
	}
	if !n.isJustReached(t, p.goal) {
		return refuse(api.ErrFalse)
	}
	p.claims = append(p.claims, at)
	return ok, nil
}

// isJustReached reports whether a ticket has reached a goal by the last call, and not before.
func (n *Night) isJustReached(t cover.Ticket, goal int) bool {
	if len(n.calls) == 0 {
		return false
	}
	before := n.calls[:len(n.calls)-1]
	return fullRows(t, n.calls) >= goal && fullRows(t, before) < goal
}

// pay pays all prizes that were won.
func (n *Night) pay() {
	for i := range n.prizes {
		p := &n.prizes[i]
		if len(p.claims) == 0 {
			continue
		}
		count := int64(len(p.claims))
		part, rest := p.amount/count, p.amount%count
		for j, at := range p.claims {
			_, player, _ := n.ticket(at)
			n.won[player] += part
			if int64(j) < rest {
				n.won[player]++
			}
		}
		p.claims, p.isPaid = nil, true
	}
}

// copiedPrizes returns the same prizes, with claims in memory of their own.
func copiedPrizes(prizes []prize) []prize {
	list := slices.Clone(prizes)
	for i, p := range list {
		list[i].claims = slices.Clone(p.claims)
	}
	return list
}
