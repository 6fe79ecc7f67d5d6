package hall_test

import (
	"math/rand/v2"
	"slices"
	"strconv"
	"strings"

	"dauber/draw"
	"dauber/share"
)

// author writes lines of a night, most of which do something, after what the oracle knows.
type author struct {
	r      *rand.Rand
	o      *oracle
	posts  []string // lines of the open draw that are still to come
	closes int      // once in so many lines the night ends
}

// someScript returns lines of a night.
func someScript(r *rand.Rand, length int) []string {
	a := author{r: r, o: &oracle{}, closes: oneOf(r, 80, 400)}
	var lines []string
	if r.IntN(4) > 0 {
		for _, line := range []string{"strip a 1", "strip b 1", "sell a 1 ann", "sell b 1 bob", "prize 1 " + a.upTo(100), "prize 2 " + a.upTo(100), "prize 1 " + a.upTo(100)} {
			lines = append(lines, a.add(line))
		}
	}
	for range oneOf(r, 8, 15, 25) {
		lines = append(lines, a.add(a.preparation()))
	}
	for len(lines) < length {
		lines = append(lines, a.add(a.next()))
	}
	return lines
}

// add does a line, and if it is a draw's first one thinks of what is posted.
func (a *author) add(line string) string {
	if a.o.do(line) == "ok" && strings.HasPrefix(line, "open") {
		a.posts = a.somePosts()
	}
	return line
}

func (a *author) one(list ...string) string {
	return oneOf(a.r, list...)
}

func (a *author) upTo(n int) string {
	return strconv.Itoa(a.r.IntN(n + 1))
}

// preparation comes before the first call.
func (a *author) preparation() string {
	switch a.r.IntN(8) {
	case 0, 1:
		return "strip " + a.one("a", "b", "c") + " " + a.one("1", "1", "1", "2", "7", "1000000000000")
	case 2, 3, 4:
		return "sell " + a.one("a", "b", "c") + " " + a.one("1", "1", "2", "3", a.upTo(7)) + " " + a.one("ann", "bob", "call", "z9")
	case 5, 6:
		return "prize " + a.one("1", "1", "2", "3", a.upTo(4)) + " " + a.one("1", "2", "10", "100", "0", "1000000000000", a.upTo(1000))
	}
	return a.anything()
}

// next goes on with the night.
func (a *author) next() string {
	open := a.o.board() != nil
	if good := a.goodClaims(); len(good) > 0 && a.r.IntN(3) > 0 {
		return oneOf(a.r, good...)
	}
	switch x := a.r.IntN(100); {
	case a.r.IntN(a.closes) == 0:
		return "close"
	case x < 12:
		return a.anything()
	case x < 20:
		return a.question()
	case x < 28:
		return a.claim()
	case open && len(a.posts) == 0:
		return "ball"
	case open && x < 90:
		line := a.posts[0]
		a.posts = a.posts[1:]
		return line
	case open:
		return a.one("ball", a.post())
	case x < 95:
		return "call " + strconv.Itoa(a.wanted())
	}
	return "open " + a.one("3", "5", "11", "11", "101", "12") + " " + a.one("2", "2", "3", "4") + " " + a.one("0", "1", "1", "2")
}

// wanted returns a number, mostly one that a sold ticket waits for.
func (a *author) wanted() int {
	sold := a.o.events("sell")
	if len(sold) == 0 || a.r.IntN(6) == 0 {
		return a.r.IntN(92)
	}
	ticket := a.o.ticket(sold[0].words)
	if a.r.IntN(4) == 0 {
		ticket = a.o.ticket(oneOf(a.r, sold...).words)
	}
	for _, n := range ticket {
		if n > 0 && !slices.Contains(a.o.calls(), n) {
			return n
		}
	}
	return a.r.IntN(92)
}

// goodClaims are all that would be accepted.
func (a *author) goodClaims() []string {
	var good []string
	calls := a.o.calls()
	for _, e := range a.o.events("sell") {
		if len(calls) == 0 || !slices.Contains(a.o.ticket(e.words), calls[len(calls)-1]) {
			continue
		}
		for i := range a.o.events("prize") {
			line := "claim " + e.words[1] + " " + e.words[2] + " " + strconv.Itoa(i+1)
			if a.o.answer(line) == "ok" {
				good = append(good, line)
			}
		}
	}
	return good
}

func (a *author) claim() string {
	return "claim " + a.one("a", "b", "c", "d") + " " + a.upTo(7) + " " + a.upTo(8)
}

// post is any line of a draw.
func (a *author) post() string {
	hall, of, number := a.upTo(4), a.upTo(4), a.upTo(11)
	return a.one("deal "+hall+" "+number+" "+number, "deal "+hall+" "+number, "complain "+hall+" "+of, "answer "+hall+" "+of+" "+number, "reveal "+hall+" "+number+" "+number, "reveal "+hall+" "+number, "share "+hall+" "+of+" "+number)
}

// somePosts are the lines of a draw in which most halls are honest.
func (a *author) somePosts() []string {
	w := a.o.done[a.o.opened()].words
	g, _ := share.Find(int64(number(w[1])))
	c := draw.Config{Group: g, Halls: number(w[2]), Bound: number(w[3]), Balls: 90}
	polys := make([][]int64, c.Halls)
	var lost [][2]int
	for i := range polys {
		if a.r.IntN(10) == 0 {
			continue
		}
		for range c.Bound + 1 {
			polys[i] = append(polys[i], a.r.Int64N(g.P))
		}
		if a.r.IntN(3) == 0 {
			lost = append(lost, [2]int{i + 1, a.r.IntN(c.Halls) + 1})
		}
	}
	b, _ := draw.Run(c, polys, draw.Board{}, lost)
	var lines []string
	for _, list := range [][]draw.Line{b.Deals, b.Complaints, b.Answers, b.Reveals} {
		for _, l := range list {
			lines = append(lines, written(l))
			if a.r.IntN(6) == 0 {
				lines = append(lines, a.post())
			}
		}
	}
	return lines
}

// written returns the line of text for a line of a board.
func written(l draw.Line) string {
	words := []string{[]string{"", "deal", "complain", "answer", "reveal", "share"}[l.Kind], strconv.Itoa(l.Hall)}
	if l.Kind != draw.Deal && l.Kind != draw.Reveal {
		words = append(words, strconv.Itoa(l.Of))
	}
	for _, n := range l.Numbers {
		words = append(words, strconv.FormatInt(n, 10))
	}
	return strings.Join(words, " ")
}

func (a *author) question() string {
	at := a.one("a", "b", "c", "d") + " " + a.upTo(7)
	return a.one("ticket "+at, "left "+at, "chance "+at+" "+a.upTo(91), "calls", "guilty", "money "+a.one("ann", "bob", "call", "z9", "eve"), "serial "+a.upTo(950000), "judge "+a.upTo(50)+" "+a.upTo(8)+" "+a.upTo(3))
}

// anything is any line: of any form with any words, or none, or a comment.
func (a *author) anything() string {
	if a.r.IntN(3) == 0 {
		return a.one("", "#", "# call 1", " ", "call", "call 1 2", "call 01", "Call 1", "call  1", " call 1", "call 1 ", "close 1", "\xff", "call 1\n", strings.Repeat("x", 513), ones("deal 1", 65), "strip A 1", "no", "prize a 1", "ball 1")
	}
	first := oneOf(a.r, sortedForms()...)
	if first == "read" || first == "close" {
		first = "call"
	}
	line := first
	for _, kind := range kinds[first] {
		switch kind {
		case 'a':
			line += " " + a.one("a", "b", "c", "ann", "bob", "z9")
		case 'n':
			line += " " + a.one("0", "1", "1", "2", "3", "7", "90", a.upTo(100))
		case '*':
			line += strings.Repeat(" 1", a.r.IntN(3))
		}
	}
	return line
}

func sortedForms() []string {
	var list []string
	for first := range kinds {
		list = append(list, first)
	}
	slices.Sort(list)
	return list
}
