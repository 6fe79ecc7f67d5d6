package cover

import (
	"dauber/api"
)

// Strip returns a strip, the same one for the same seed.
func Strip(seed uint64) [6]Ticket {
	strip, _ := complete(nil, numbers{}, seed)
	return strip
}

// Complete returns a strip that begins with these tickets; ErrLong if there are more than six; ErrArg if one is no ticket, or a number occurs twice; or ErrNone if there is no such strip.
func Complete(t []Ticket) ([6]Ticket, api.Errno) {
	if len(t) > inStrip {
		return [6]Ticket{}, api.ErrLong
	}
	has, is := used(t)
	if !is {
		return [6]Ticket{}, api.ErrArg
	}
	strip, is := complete(t, has, 0)
	if !is {
		return [6]Ticket{}, api.ErrNone
	}
	return strip, api.OK
}

// complete returns a strip that begins with these tickets, which have these numbers; or false if there is none.
func complete(t []Ticket, has numbers, seed uint64) ([6]Ticket, bool) {
	var strip [6]Ticket
	copy(strip[:], t)
	d := newDealer(has, seed)
	for _, rest := range d.rest {
		if missing := inStrip - len(t); len(rest) < missing || len(rest) > inColumn*missing {
			return [6]Ticket{}, false
		}
	}
	for i := len(t); i < inStrip; i++ {
		strip[i] = d.deal(inStrip - i)
	}
	return strip, true
}

// dealer deals the numbers that are left to tickets. This can be done if each column has one to three numbers for each of them: then a ticket can have the same share of each column, up to fractions, and where fractions meet given sums, integers do, too.
type dealer struct {
	chance random
	rest   [9][]int // the numbers left of each column, in the order in which they are dealt
}

func newDealer(has numbers, seed uint64) *dealer {
	d := &dealer{chance: random(seed)}
	for n, is := range has {
		if n > 0 && !is {
			d.rest[columnOf(n)] = append(d.rest[columnOf(n)], n)
		}
	}
	for _, rest := range d.rest {
		d.chance.shuffle(rest)
	}
	return d
}

// deal returns a ticket, the first one of those that are missing.
func (d *dealer) deal(missing int) Ticket {
	shares := d.shares(missing)
	var has numbers
	for c, share := range shares {
		for _, n := range d.rest[c][:share] {
			has[n] = true
		}
		d.rest[c] = d.rest[c][share:]
	}
	return d.places(shares).arranged(has)
}

// shares returns how many numbers of each column a ticket gets, so that those that are missing after it can be dealt.
func (d *dealer) shares(missing int) []int {
	shares := make([]int, len(d.rest))
	var more []int // columns of which it can have more, as often as it can
	for c, rest := range d.rest {
		shares[c] = max(1, len(rest)-inColumn*(missing-1))
		for range min(inColumn, len(rest)-(missing-1)) - shares[c] {
			more = append(more, c)
		}
	}
	d.chance.shuffle(more)
	for _, c := range more[:inTicket-total(shares)] {
		shares[c]++
	}
	return shares
}

// places returns a ticket with that many places in each column that are not 0.
func (d *dealer) places(shares []int) Ticket {
	order := []int{0, 1, 2, 3, 4, 5, 6, 7, 8}
	d.chance.shuffle(order)
	columns := make([]int, len(order))
	for i, c := range order {
		columns[i] = shares[c]
	}
	// Five places in each row are possible: at most three columns have three.
	table := fill([]int{inRow, inRow, inRow}, columns)
	rows := []int{0, 1, 2}
	d.chance.shuffle(rows)
	var t Ticket
	for r, row := range table {
		for i, place := range row {
			t[rows[r]][order[i]] = place
		}
	}
	return t
}

// random makes numbers that look like random ones, the same ones for the same seed.
type random uint64

// next returns the next number of Steele's, Lea's and Flood's generator SplitMix64.
func (r *random) next() uint64 {
	*r += 0x9e3779b97f4a7c15
	x := uint64(*r)
	x = (x ^ x>>30) * 0xbf58476d1ce4e5b9
	x = (x ^ x>>27) * 0x94d049bb133111eb
	return x ^ x>>31
}

func (r *random) shuffle(list []int) {
	for i := len(list) - 1; i > 0; i-- {
		k := int(r.next() % uint64(i+1))
		list[i], list[k] = list[k], list[i]
	}
}
