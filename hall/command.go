package hall

import "dauber/draw"

// commands returns the forms of all lines that change the night.
func (n *Night) commands() map[string]form {
	return map[string]form{
		"strip": func(r *reader) deed {
			name := r.name()
			seed := r.number()
			return func() (string, error) { return n.makeStrip(name, seed) }
		},
		"sell": func(r *reader) deed {
			at := r.place()
			player := r.name()
			return func() (string, error) { return n.sell(at, player) }
		},
		"prize": func(r *reader) deed {
			goal := r.number()
			amount := r.number()
			return func() (string, error) { return n.putUp(goal, amount) }
		},
		"call": func(r *reader) deed {
			number := r.number()
			return func() (string, error) { return n.call(int(number)) }
		},
		"claim": func(r *reader) deed {
			at := r.place()
			number := r.number()
			return func() (string, error) { return n.claim(at, number) }
		},
		"close": func(*reader) deed { return n.close },
		"open": func(r *reader) deed {
			p := r.number()
			halls := r.number()
			bound := r.number()
			return func() (string, error) { return n.open(p, int(halls), int(bound)) }
		},
		"deal":     n.ofAll(draw.Deal),
		"complain": n.about(draw.Complain),
		"answer":   n.numberAbout(draw.Answer),
		"reveal":   n.ofAll(draw.Reveal),
		"share":    n.numberAbout(draw.Open),
		"ball":     func(*reader) deed { return n.ball },
	}
}

// ofAll returns the form of the lines with a hall and numbers.
func (n *Night) ofAll(kind int) form {
	return func(r *reader) deed {
		hall := int(r.number())
		numbers := r.numbers()
		return n.posting(draw.Line{Hall: hall, Kind: kind, Numbers: numbers})
	}
}

// about returns the form of the lines with a hall and another one.
func (n *Night) about(kind int) form {
	return func(r *reader) deed {
		hall := int(r.number())
		of := int(r.number())
		return n.posting(draw.Line{Hall: hall, Kind: kind, Of: of})
	}
}

// numberAbout returns the form of the lines with a hall, another one, and a number.
func (n *Night) numberAbout(kind int) form {
	return func(r *reader) deed {
		hall := int(r.number())
		of := int(r.number())
		number := r.number()
		return n.posting(draw.Line{Hall: hall, Kind: kind, Of: of, Numbers: []int64{number}})
	}
}
