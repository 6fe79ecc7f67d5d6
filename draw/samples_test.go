package draw_test

import (
	"math"
	"math/rand/v2"
	"slices"

	"dauber/api"
	"dauber/draw"
	"dauber/share"
)

// found returns the group that Find makes.
func found(p int64) share.Group {
	g, e := share.Find(p)
	if e != api.OK {
		panic("no group")
	}
	return g
}

// config returns a draw in the group of 11 elements with 90 balls.
func config(halls, bound int) draw.Config {
	return draw.Config{Group: found(11), Halls: halls, Bound: bound, Balls: 90}
}

func deal(hall int, numbers ...int64) draw.Line {
	return draw.Line{Hall: hall, Kind: draw.Deal, Numbers: numbers}
}

func complain(hall, of int) draw.Line {
	return draw.Line{Hall: hall, Kind: draw.Complain, Of: of}
}

func answers(hall, of int, number int64) draw.Line {
	return draw.Line{Hall: hall, Kind: draw.Answer, Of: of, Numbers: []int64{number}}
}

func reveal(hall int, numbers ...int64) draw.Line {
	return draw.Line{Hall: hall, Kind: draw.Reveal, Numbers: numbers}
}

func opens(hall, of int, number int64) draw.Line {
	return draw.Line{Hall: hall, Kind: draw.Open, Of: of, Numbers: []int64{number}}
}

func lines(list ...draw.Line) []draw.Line {
	return list
}

// listOf returns the list of a phase.
func listOf(b *draw.Board, phase int) *[]draw.Line {
	return []*[]draw.Line{&b.Deals, &b.Complaints, &b.Answers, &b.Reveals}[phase]
}

func cloned(b draw.Board) draw.Board {
	for phase := range 4 {
		list := listOf(&b, phase)
		*list = slices.Clone(*list)
		for i := range *list {
			(*list)[i].Numbers = slices.Clone((*list)[i].Numbers)
		}
	}
	return b
}

// with returns a board with more lines in the list of a phase.
func with(b draw.Board, phase int, more ...draw.Line) draw.Board {
	list := listOf(&b, phase)
	*list = slices.Concat(*list, more)
	return b
}

// wildInts are out of the range of any hall, or at its ends.
func wildInts(halls int) []int {
	return []int{math.MinInt, -1 << 32, -halls, -1, 0, 1, halls, halls + 1, 16, 17, 64, 1 << 32, 1<<32 + 1, math.MaxInt}
}

// wildNumbers are out of the range of numbers modulo P, or at its ends.
func wildNumbers(g share.Group) []int64 {
	return []int64{math.MinInt64, -g.R, -g.P, -1, 0, 1, g.P - 1, g.P, g.P + 1, g.R - 1, g.R, g.R + 1, 1 << 32, math.MaxInt64}
}

// nonElements are numbers that are no elements of a group, some of which are the same as elements modulo R.
func nonElements(g share.Group) []int64 {
	list := []int64{math.MinInt64, -g.R, -1, 0, g.R - 1, g.R, g.R + 1, g.G + g.R, g.G - g.R, g.G + g.R<<31, 1 << 32, math.MaxInt64}
	logs := logarithms(g)
	for x := int64(2); x < min(g.R, 60); x++ {
		if _, is := logs[x]; !is {
			list = append(list, x)
		}
	}
	return list
}

func oneOf[T any](r *rand.Rand, list ...T) T {
	return list[r.IntN(len(list))]
}

// chance reports something that is so once in n times.
func chance(r *rand.Rand, n int) bool {
	return r.IntN(n) == 0
}

// somePoly returns a polynomial in which 0 and P - 1 are frequent.
func somePoly(r *rand.Rand, c draw.Config) []int64 {
	poly := make([]int64, c.Bound+1)
	for i := range poly {
		poly[i] = oneOf(r, 0, c.Group.P-1, r.Int64N(c.Group.P), r.Int64N(c.Group.P), r.Int64N(c.Group.P))
	}
	return poly
}

func somePolys(r *rand.Rand, c draw.Config) [][]int64 {
	polys := make([][]int64, c.Halls)
	for i := range polys {
		polys[i] = somePoly(r, c)
	}
	return polys
}

func someConfig(r *rand.Rand, mostHalls int) draw.Config {
	g := found(oneOf[int64](r, 3, 5, 7, 11, 13, 17, 19, 101))
	halls := 2 + r.IntN(min(mostHalls, int(g.P)-1)-1)
	return draw.Config{Group: g, Halls: halls, Bound: r.IntN(min(halls, 1+r.IntN(halls))), Balls: 1 + r.IntN(90)}
}

// mostly returns a number, or sometimes another one.
func mostly(r *rand.Rand, g share.Group, n int64) int64 {
	if chance(r, 6) {
		return oneOf(r, append(wildNumbers(g), r.Int64N(g.P), n+g.P, n-g.P)...)
	}
	return n
}

// spoiled returns a line that is not quite the same.
func spoiled(r *rand.Rand, c draw.Config, l draw.Line) draw.Line {
	l.Numbers = slices.Clone(l.Numbers)
	switch r.IntN(6) {
	case 0:
		l.Kind = oneOf(r, -1, 0, 1, 2, 3, 4, 5, 6, 7, math.MinInt, math.MaxInt)
	case 1:
		l.Hall = oneOf(r, wildInts(c.Halls)...)
	case 2:
		l.Of = oneOf(r, append(wildInts(c.Halls), l.Hall)...)
	case 3:
		l.Numbers = append(l.Numbers, r.Int64N(c.Group.P))
	case 4:
		l.Numbers = l.Numbers[:len(l.Numbers)/2]
	case 5:
		for i := range l.Numbers {
			l.Numbers[i] = oneOf(r, l.Numbers[i], mostly(r, c.Group, r.Int64N(c.Group.R)))
		}
	}
	return l
}

// someDeals are of most halls, some of them twice.
func someDeals(r *rand.Rand, c draw.Config, polys [][]int64) []draw.Line {
	var list []draw.Line
	for i, poly := range polys {
		numbers := commitments(c.Group, poly...)
		if chance(r, 15) {
			numbers[r.IntN(len(numbers))] = oneOf(r, nonElements(c.Group)...)
		}
		for range oneOf(r, 1, 1, 1, 1, 1, 2, 2, 0) {
			list = append(list, deal(i+1, numbers...))
		}
	}
	return list
}

// someBoard returns lines of halls with these polynomials, with complaints once in so many times, most of them answered.
func someBoard(r *rand.Rand, c draw.Config, polys [][]int64, complaints int) draw.Board {
	b := draw.Board{Deals: someDeals(r, c, polys)}
	reveals, shares := oneOf(r, 1, 2, 4), oneOf(r, 1, 2, 3)
	for i, poly := range polys {
		hall := i + 1
		if !chance(r, reveals) || reveals == 1 {
			b.Reveals = append(b.Reveals, reveal(hall, poly...))
		}
		for other := 1; other <= c.Halls; other++ {
			if other == hall {
				continue
			}
			right := valueAt(poly, other, c.Group.P)
			complained := chance(r, complaints)
			if complained {
				b.Complaints = append(b.Complaints, complain(other, hall))
			}
			if complained && !chance(r, 8) || chance(r, 10) {
				b.Answers = append(b.Answers, answers(hall, other, mostly(r, c.Group, right)))
			}
			if chance(r, shares) {
				b.Reveals = append(b.Reveals, opens(other, hall, mostly(r, c.Group, right)))
			}
		}
	}
	for phase := range 4 {
		sprinkle(r, c, listOf(&b, phase), b)
	}
	return b
}

// sprinkle shuffles a list, after lines like those of all lists, but spoiled, have been put into it.
func sprinkle(r *rand.Rand, c draw.Config, list *[]draw.Line, b draw.Board) {
	for range r.IntN(5) {
		if like := *listOf(&b, r.IntN(4)); len(like) > 0 {
			*list = append(*list, spoiled(r, c, oneOf(r, like...)))
		}
		if len(*list) > 0 {
			*list = append(*list, spoiled(r, c, oneOf(r, *list...)))
		}
	}
	r.Shuffle(len(*list), func(i, j int) { (*list)[i], (*list)[j] = (*list)[j], (*list)[i] })
}

// someLost returns pairs, some of them of halls that there are not, of all pairs about one in so many.
func someLost(r *rand.Rand, c draw.Config, one int) [][2]int {
	var lost [][2]int
	for sender := 0; sender <= c.Halls+1; sender++ {
		for other := -1; other <= c.Halls+1; other++ {
			if chance(r, one) {
				lost = append(lost, [2]int{sender, other})
			}
		}
	}
	for range r.IntN(3) {
		lost = append(lost, [2]int{oneOf(r, wildInts(c.Halls)...), oneOf(r, wildInts(c.Halls)...)})
	}
	if len(lost) > 0 && chance(r, 2) {
		lost = append(lost, oneOf(r, lost...))
	}
	return lost
}
