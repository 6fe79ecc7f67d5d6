package hall

import (
	"dauber/api"
	"dauber/chance"
	"dauber/design"
)

// questions returns the forms of all lines that change nothing.
func (n *Night) questions() map[string]form {
	return map[string]form{
		"ticket": func(r *reader) deed {
			at := r.place()
			return func() (string, error) { return n.showTicket(at) }
		},
		"money": func(r *reader) deed {
			player := r.name()
			return func() (string, error) { return joined("money", n.won[player]), nil }
		},
		"calls": func(*reader) deed {
			return func() (string, error) { return joined("calls", n.calls...), nil }
		},
		"left": func(r *reader) deed {
			at := r.place()
			return func() (string, error) { return n.left(at) }
		},
		"chance": func(r *reader) deed {
			at := r.place()
			further := r.number()
			return func() (string, error) { return n.chance(at, further) }
		},
		"serial": func(r *reader) deed {
			number := r.number()
			return func() (string, error) { return serial(number) }
		},
		"read": func(r *reader) deed {
			var word []int
			for range serialPlaces {
				word = append(word, int(r.number()))
			}
			return func() (string, error) { return serialOf(word) }
		},
		"judge": func(r *reader) deed {
			v := r.number()
			k := r.number()
			l := r.number()
			return func() (string, error) { return judge(int(v), int(k), int(l)) }
		},
		"guilty": func(*reader) deed { return n.guilty },
	}
}

func (n *Night) showTicket(at place) (string, error) {
	t, _, e := n.ticket(at)
	if e != nil {
		return "", e
	}
	return joined("ticket", numbersOf(t)...), nil
}

func (n *Night) left(at place) (string, error) {
	t, _, e := n.ticket(at)
	if e != nil {
		return "", e
	}
	return joined("left", missing(numbersOf(t), n.calls)), nil
}

// chance tells the chance that a ticket is full after further calls.
func (n *Night) chance(at place, further int64) (string, error) {
	t, _, e := n.ticket(at)
	if e != nil {
		return "", e
	}
	free := len(n.uncalled())
	if further > int64(free) {
		return refuse(api.ErrArg)
	}
	// The numbers are named anew, those that the ticket misses first: the chance is that of any card with as many of them.
	var card []int
	for i := range missing(numbersOf(t), n.calls) {
		card = append(card, i+1)
	}
	if len(card) == 0 {
		return joined("chance", 1), nil
	}
	r, _ := chance.Full(free, [][]int{card}, int(further))
	return "chance " + r.String(), nil
}

func judge(v, k, l int) (string, error) {
	verdict, e := design.Judge(v, k, l)
	if e != api.OK {
		return refuse(e)
	}
	if verdict.Code == design.Place {
		return joined("judge", verdict.Code, verdict.Place), nil
	}
	return joined("judge", verdict.Code), nil
}
