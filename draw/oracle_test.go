package draw_test

import (
	"fmt"
	"math/rand/v2"
	"reflect"
	"slices"
	"testing"

	"dauber/api"
	"dauber/draw"
	"dauber/share"
)

// The tests compare the package with an oracle that reads a board by the definitions: for each question it looks through the lists anew, and it knows the polynomial of a deal by the logarithms of its commitments.

func newRandom() *rand.Rand {
	return rand.New(rand.NewPCG(9, 14))
}

// logarithms returns for each element of a group the n of which it is the power.
func logarithms(g share.Group) map[int64]int64 {
	logs := make(map[int64]int64)
	x := int64(1)
	for n := range g.P {
		logs[x] = n
		x = x * g.G % g.R
	}
	return logs
}

// commitments returns the powers of G by some numbers.
func commitments(g share.Group, numbers ...int64) []int64 {
	list := make([]int64, len(numbers))
	for i, n := range numbers {
		list[i] = 1
		for range n {
			list[i] = list[i] * g.G % g.R
		}
	}
	return list
}

// valueAt adds up the terms of a polynomial; below 2^16 nothing is too large.
func valueAt(poly []int64, x int, p int64) int64 {
	total, power := int64(0), int64(1)
	for _, c := range poly {
		total = (total + c*power) % p
		power = power * int64(x) % p
	}
	return total
}

type oracle struct {
	draw.Config
	draw.Board
	logs map[int64]int64
}

func newOracle(c draw.Config, b draw.Board) oracle {
	return oracle{c, b, logarithms(c.Group)}
}

// halls returns the numbers of all halls of which something is so.
func (o oracle) halls(so func(hall int) bool) []int {
	var list []int
	for hall := 1; hall <= o.Halls; hall++ {
		if so(hall) {
			list = append(list, hall)
		}
	}
	return list
}

// others returns all halls but one.
func (o oracle) others(hall int) []int {
	return o.halls(func(other int) bool { return other != hall })
}

// find returns the indices of a hall's lines of a kind with so many numbers; of is 0 where it does not matter.
func (o oracle) find(list []draw.Line, hall, kind, of, numbers int) []int {
	var found []int
	for i, l := range list {
		if l.Hall == hall && l.Kind == kind && len(l.Numbers) == numbers && (of == 0 || of == l.Of) {
			found = append(found, i)
		}
	}
	return found
}

func (o oracle) deals(hall int) []int {
	return o.find(o.Deals, hall, draw.Deal, 0, o.Bound+1)
}

// poly returns the polynomial of a hall's deal; nil if it has none.
func (o oracle) poly(hall int) []int64 {
	deals := o.deals(hall)
	if len(deals) == 0 {
		return nil
	}
	var poly []int64
	for _, x := range o.Deals[deals[0]].Numbers {
		n, is := o.logs[x]
		if !is {
			return nil
		}
		poly = append(poly, n)
	}
	return poly
}

func (o oracle) dealt(hall int) bool {
	return o.poly(hall) != nil
}

// share returns the share that a hall's deal has for another one; -2 if there is no deal.
func (o oracle) share(hall, other int) int64 {
	if !o.dealt(hall) {
		return -2
	}
	return valueAt(o.poly(hall), other, o.Group.P)
}

// complainers returns the halls that complained of one.
func (o oracle) complainers(hall int) []int {
	return o.halls(func(other int) bool {
		return o.dealt(hall) && other != hall && len(o.find(o.Complaints, other, draw.Complain, hall, 0)) > 0
	})
}

// answer returns the index and the number of a hall's answer for another one; -1 and -1 if there is none.
func (o oracle) answer(hall, other int) (int, int64) {
	answers := o.find(o.Answers, hall, draw.Answer, other, 1)
	if len(answers) == 0 {
		return -1, -1
	}
	return answers[0], o.Answers[answers[0]].Numbers[0]
}

func (o oracle) rightAnswer(hall, other int) bool {
	_, n := o.answer(hall, other)
	return n == o.share(hall, other)
}

func (o oracle) in(hall int) bool {
	for _, other := range o.complainers(hall) {
		if !o.rightAnswer(hall, other) {
			return false
		}
	}
	return o.dealt(hall)
}

// opened reports whether one hall opened the right share that it has from another one.
func (o oracle) opened(hall, place int) bool {
	return slices.ContainsFunc(o.find(o.Reveals, place, draw.Open, hall, 1), func(i int) bool {
		return o.Reveals[i].Numbers[0] == o.share(hall, place)
	})
}

func (o oracle) revealed(hall int) bool {
	return slices.ContainsFunc(o.find(o.Reveals, hall, draw.Reveal, 0, o.Bound+1), func(i int) bool {
		return slices.Equal(o.Reveals[i].Numbers, o.poly(hall))
	})
}

// secret returns the secret of a hall; -1 if it is not in, or not known.
func (o oracle) secret(hall int) int64 {
	places := o.halls(func(place int) bool {
		return place != hall && (o.rightAnswer(hall, place) || o.opened(hall, place))
	})
	if o.in(hall) && (o.revealed(hall) || len(places) > o.Bound) {
		return o.poly(hall)[0]
	}
	return -1
}

func (o oracle) sum() int64 {
	in := o.halls(o.in)
	if len(in) == 0 {
		return -1
	}
	total := int64(0)
	for _, hall := range in {
		if o.secret(hall) < 0 {
			return -1
		}
		total += o.secret(hall)
	}
	return total % o.Group.P
}

// shows returns the indices of the lines that show that a hall is guilty, for each reason.
func (o oracle) shows(hall int) map[int][]int {
	lines := map[int][]int{}
	deals := o.deals(hall)
	for _, i := range deals {
		if len(lines[draw.Twice]) == 0 && !slices.Equal(o.Deals[i].Numbers, o.Deals[deals[0]].Numbers) {
			lines[draw.Twice] = []int{i}
		}
	}
	if len(deals) > 0 && !o.dealt(hall) {
		lines[draw.Bad] = deals[:1]
	}
	for _, other := range o.complainers(hall) {
		if i, _ := o.answer(hall, other); i < 0 {
			lines[draw.Silent] = append(lines[draw.Silent], -1)
		} else if !o.rightAnswer(hall, other) {
			lines[draw.Wrong] = append(lines[draw.Wrong], i)
		}
	}
	slices.Sort(lines[draw.Wrong])
	for i, l := range o.Reveals {
		switch {
		case l.Hall != hall:
		case l.Kind == draw.Reveal && len(l.Numbers) == o.Bound+1 && o.dealt(hall) && !slices.Equal(l.Numbers, o.poly(hall)):
			lines[draw.False] = append(lines[draw.False], i)
		case l.Kind == draw.Open && len(l.Numbers) == 1 && l.Of != hall && slices.Contains(o.halls(o.in), l.Of) && l.Numbers[0] != o.share(l.Of, hall):
			lines[draw.False] = append(lines[draw.False], i)
		}
	}
	return lines
}

func (o oracle) guilt() []draw.Guilt {
	var list []draw.Guilt
	for why := draw.Twice; why <= draw.False; why++ {
		for _, hall := range o.halls(func(int) bool { return true }) {
			for _, i := range o.shows(hall)[why] {
				list = append(list, draw.Guilt{Hall: hall, Why: why, Line: i})
			}
		}
	}
	return list
}

// posts returns what an honest hall posts.
func (o oracle) posts(hall int, poly, got []int64, phase int) []draw.Line {
	var lines []draw.Line
	switch {
	case phase == 0:
		return []draw.Line{deal(hall, commitments(o.Group, poly...)...)}
	case phase == 3 && o.in(hall):
		lines = append(lines, reveal(hall, poly...))
	}
	for _, other := range o.others(hall) {
		fits := got[other-1] == o.share(other, hall)
		_, answer := o.answer(other, hall)
		switch {
		case phase == 1 && o.dealt(other) && !fits:
			lines = append(lines, complain(hall, other))
		case phase == 2 && slices.Contains(o.complainers(hall), other):
			lines = append(lines, answers(hall, other, valueAt(poly, other, o.Group.P)))
		case phase == 3 && o.in(other) && fits:
			lines = append(lines, opens(hall, other, got[other-1]))
		case phase == 3 && o.in(other) && o.rightAnswer(other, hall):
			lines = append(lines, opens(hall, other, answer))
		}
	}
	return lines
}

// run returns the board of a draw. What is lost is looked up for each share.
func run(c draw.Config, polys [][]int64, posted draw.Board, lost [][2]int) draw.Board {
	o := newOracle(c, cloned(posted))
	for phase := range 4 {
		var lines []draw.Line
		for hall := 1; hall <= c.Halls; hall++ {
			if len(polys[hall-1]) == 0 {
				continue
			}
			got := make([]int64, c.Halls)
			for i := range got {
				got[i] = -1
				if i+1 != hall && len(polys[i]) > 0 && !slices.Contains(lost, [2]int{i + 1, hall}) {
					got[i] = valueAt(polys[i], hall, c.Group.P)
				}
			}
			lines = append(lines, o.posts(hall, polys[hall-1], got, phase)...)
		}
		list := listOf(&o.Board, phase)
		*list = append(*list, lines...)
	}
	return o.Board
}

// verdict is all that a board says; a secret or a sum is -1, and a ball 0, if there is none.
type verdict struct {
	dealt, in []int
	secrets   []int64
	sum       int64
	ball      int
	guilt     []draw.Guilt
}

func (o oracle) verdict() verdict {
	v := verdict{o.halls(o.dealt), o.halls(o.in), nil, o.sum(), 0, o.guilt()}
	for hall := 1; hall <= o.Halls; hall++ {
		v.secrets = append(v.secrets, o.secret(hall))
	}
	if v.sum >= 0 {
		v.ball = 1 + int(v.sum)%o.Balls
	}
	return v
}

// verdictOf asks the package.
func verdictOf(t *testing.T, c draw.Config, b draw.Board) verdict {
	t.Helper()
	var v verdict
	errors := make([]api.Errno, 3)
	v.dealt, errors[0] = draw.Dealt(c, b)
	v.in, errors[1] = draw.In(c, b)
	v.guilt, errors[2] = draw.Guilty(c, b)
	for _, e := range errors {
		expectError(t, "Dealt, In or Guilty", e, api.OK)
	}
	for hall := 1; hall <= c.Halls; hall++ {
		secret, e := draw.Secret(c, b, hall)
		v.secrets = append(v.secrets, orNone(t, "Secret", secret, e, -1))
	}
	sum, e := draw.Sum(c, b)
	v.sum = orNone(t, "Sum", sum, e, -1)
	ball, e := draw.Ball(c, b)
	v.ball = orNone(t, "Ball", ball, e, 0)
	return v
}

// orNone returns a number, or if there is none what stands for that.
func orNone[T int | int64](t *testing.T, what string, n T, e api.Errno, none T) T {
	t.Helper()
	if e == api.OK {
		return n
	}
	expectError(t, what, e, api.ErrNone, n)
	return none
}

func expectSame(t *testing.T, what string, got, want any) {
	t.Helper()
	if fmt.Sprint(got) != fmt.Sprint(want) {
		t.Errorf("%s: %v; want %v", what, got, want)
	}
}

// expectVerdict checks what the package and the oracle say of a board.
func expectVerdict(t *testing.T, what string, c draw.Config, b draw.Board, want verdict) {
	t.Helper()
	expectSame(t, what, verdictOf(t, c, b), want)
	expectSame(t, what+", by the oracle", newOracle(c, b).verdict(), want)
}

func expectLines(t *testing.T, what string, got []draw.Line, e api.Errno, want []draw.Line) {
	t.Helper()
	expectError(t, what, e, api.OK)
	expectSame(t, what, got, want)
}

// expectError checks the error, and that each of the results beside it is a zero value or empty.
func expectError(t *testing.T, what string, e, want api.Errno, results ...any) {
	t.Helper()
	if e != want {
		t.Errorf("%s: error %d; want %d", what, e, want)
	}
	for _, result := range results {
		v := reflect.ValueOf(result)
		if v.Kind() == reflect.Slice && v.Len() > 0 || v.Kind() != reflect.Slice && !v.IsZero() {
			t.Errorf("%s: %v beside the error %d", what, result, e)
		}
	}
}
