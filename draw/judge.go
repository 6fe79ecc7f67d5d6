package draw

import (
	"slices"

	"dauber/api"
	"dauber/share"
)

// judge knows what a board says of each hall, and tells whom it is to blame for which line.
type judge struct {
	Config
	records [maxHalls + 1]record // by the numbers of halls
	blame   func(hall, why, line int)
}

// record is what a board says of a hall. Its arrays are by the numbers of the others.
type record struct {
	first       []int64 // the numbers of its first line of Kind Deal
	twice       bool    // whether another such line differs
	commitments []int64 // nil if it has no deal
	complained  [maxHalls + 1]bool
	answers     [maxHalls + 1]claim
	shares      [maxHalls + 1]claim // those that are right, whoever posted them
	secret      claim               // by a right line of Kind Reveal
}

// claim is a number that is said to be a share or a secret.
type claim struct {
	made, right bool
	number      int64
}

func rightClaim(number int64) claim {
	return claim{true, true, number}
}

// rule tells in which phase lines of a kind count, what they must have to count, and how one that does is judged.
type rule struct {
	phase   int
	numbers int
	ofOther bool
	judge   func(j *judge, at int, l Line)
}

// rules returns the rules by the kinds of lines.
func (c Config) rules() [kinds]rule {
	return [kinds]rule{
		Deal:     {dealing, c.coefficients(), false, (*judge).deal},
		Complain: {complaining, 0, true, (*judge).complaint},
		Answer:   {answering, 1, true, (*judge).answer},
		Reveal:   {revealing, c.coefficients(), false, (*judge).reveal},
		Open:     {revealing, 1, true, (*judge).open},
	}
}

// judged returns a judge who has read the board. Each list is judged by what the ones before it say.
func judged(c Config, b Board, blame func(hall, why, line int)) *judge {
	j := &judge{Config: c, blame: blame}
	rules := c.rules()
	for phase, list := range lists(&b) {
		for at, l := range *list {
			if l.Kind < Deal || l.Kind > Open {
				continue
			}
			if r := rules[l.Kind]; r.phase == phase && j.counts(r, l) {
				r.judge(j, at, l)
			}
		}
	}
	j.blameSilent()
	return j
}

// blameless is for boards of which only the draw matters.
func blameless(hall, why, line int) {}

// counts reports whether a line has the halls and as many numbers as the rule of its kind wants.
func (j *judge) counts(r rule, l Line) bool {
	if !j.isHall(l.Hall) || len(l.Numbers) != r.numbers {
		return false
	}
	return !r.ofOther || j.isHall(l.Of) && l.Of != l.Hall
}

func (j *judge) deal(at int, l Line) {
	r := &j.records[l.Hall]
	switch {
	case r.first == nil:
		r.first = l.Numbers
		if j.areElements(l.Numbers) {
			r.commitments = l.Numbers
		} else {
			j.blame(l.Hall, Bad, at)
		}
	case !r.twice && !slices.Equal(r.first, l.Numbers):
		r.twice = true
		j.blame(l.Hall, Twice, at)
	}
}

func (j *judge) complaint(_ int, l Line) {
	if j.hasDeal(l.Of) {
		j.records[l.Of].complained[l.Hall] = true
	}
}

func (j *judge) answer(at int, l Line) {
	r := &j.records[l.Hall]
	if r.answers[l.Of].made {
		return
	}
	answer := claim{true, j.fits(l.Hall, l.Of, l.Numbers[0]), l.Numbers[0]}
	r.answers[l.Of] = answer
	if answer.right {
		r.shares[l.Of] = answer
	} else if r.complained[l.Of] {
		j.blame(l.Hall, Wrong, at)
	}
}

func (j *judge) reveal(at int, l Line) {
	r := &j.records[l.Hall]
	if !j.hasDeal(l.Hall) {
		return
	}
	commitments, e := share.Commit(j.Group, l.Numbers)
	if e != api.OK || !slices.Equal(commitments, r.commitments) {
		j.blame(l.Hall, False, at)
		return
	}
	r.secret = rightClaim(l.Numbers[0])
}

func (j *judge) open(at int, l Line) {
	if !j.isIn(l.Of) {
		return
	}
	if !j.fits(l.Of, l.Hall, l.Numbers[0]) {
		j.blame(l.Hall, False, at)
		return
	}
	j.records[l.Of].shares[l.Hall] = rightClaim(l.Numbers[0])
}

// blameSilent blames halls for each other one that complained of them and got no answer.
func (j *judge) blameSilent() {
	for hall := range j.records {
		r := &j.records[hall]
		for other, complained := range r.complained {
			if complained && !r.answers[other].made {
				j.blame(hall, Silent, noLine)
			}
		}
	}
}

func (j *judge) areElements(list []int64) bool {
	for _, x := range list {
		if !j.Group.Has(x) {
			return false
		}
	}
	return true
}

func (j *judge) hasDeal(hall int) bool {
	return j.records[hall].commitments != nil
}

// fits reports whether a number is the share of a hall's polynomial for another one. Without a deal none is.
func (j *judge) fits(hall, other int, number int64) bool {
	return share.Fits(j.Group, j.records[hall].commitments, int64(other), number)
}

// isIn reports whether a hall has a deal, and gave a right answer for each one that complained of it.
func (j *judge) isIn(hall int) bool {
	for other, complained := range j.records[hall].complained {
		if complained && !j.records[hall].answers[other].right {
			return false
		}
	}
	return j.hasDeal(hall)
}
