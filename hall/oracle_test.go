package hall_test

import (
	"math/big"
	"regexp"
	"slices"
	"strconv"
	"strings"
	"testing"

	"dauber/api"
	"dauber/cover"
	"dauber/design"
	"dauber/draw"
	"dauber/hall"
	"dauber/share"
)

// kinds are the words behind the first ones: names, numbers, and any number of further numbers.
var kinds = map[string]string{
	"strip": "an", "sell": "ana", "prize": "nn", "call": "n", "claim": "ann", "close": "", "open": "nnn",
	"deal": "nn*", "complain": "nn", "answer": "nnn", "reveal": "nn*", "share": "nnn", "ball": "",
	"ticket": "an", "money": "a", "calls": "", "left": "an", "chance": "ann", "serial": "n", "read": "nnnnnnnn", "judge": "nnn", "guilty": "",
}

var forms = formsOf()

func formsOf() map[string]*regexp.Regexp {
	const name, number = `[a-z][a-z0-9]{0,11}`, `(0|[1-9][0-9]{0,11}|1000000000000)`
	list := map[string]*regexp.Regexp{}
	for first, kind := range kinds {
		kind = strings.NewReplacer("a", " "+name, "n", " "+number, "*", "( "+number+")*").Replace(kind)
		list[first] = regexp.MustCompile(`\A` + first + kind + `\z`)
	}
	return list
}

func isLine(line string) bool {
	for _, form := range forms {
		if form.MatchString(line) {
			return true
		}
	}
	return false
}

// event is a command that was done: its words, and the number that a ball called.
type event struct {
	words  []string
	called int
}

// oracle knows all that was done, and answers each line by the definitions from that alone.
type oracle struct {
	done []event
}

// do returns the answer to a line, and remembers a command that is done.
func (o *oracle) do(line string) string {
	answer := o.answer(line)
	if strings.HasPrefix(answer, "ok") {
		e := event{words: strings.Split(line, " ")}
		if line == "ball" {
			e.called = number(strings.TrimPrefix(answer, "ok "))
		}
		o.done = append(o.done, e)
	}
	return answer
}

func (o *oracle) book() string {
	book := ""
	for _, e := range o.done {
		book += strings.Join(e.words, " ") + "\n"
	}
	return book
}

func (o *oracle) answer(line string) string {
	switch {
	case len(line) > 512 || strings.Contains(line, "\n"):
		return "error 2"
	case line == "" || line[0] == '#':
		return ""
	case !isLine(line):
		return "error 100"
	}
	w := strings.Split(line, " ")
	for _, refusal := range o.refusals(w) {
		if refusal.applies {
			return "error " + strconv.Itoa(int(refusal.code))
		}
	}
	return o.told(w)
}

type refusal struct {
	code    api.Errno
	applies bool
}

// refusals returns the codes of a line, in their order.
func (o *oracle) refusals(w []string) []refusal {
	started, closed, open := len(o.calls()) > 0, o.has("close"), o.board() != nil
	switch w[0] {
	case "strip":
		return []refusal{{api.ErrState, o.has("strip", w[1]) || started}}
	case "sell":
		return []refusal{{api.ErrNone, !o.has("strip", w[1])}, {api.ErrArg, !isOnStrip(w[2])}, {api.ErrState, o.has("sell", w[1], w[2]) || started}}
	case "prize":
		return []refusal{{api.ErrArg, !slices.Contains([]string{"1", "2", "3"}, w[1]) || w[2] == "0"}, {api.ErrState, started}, {api.ErrFull, len(o.events("prize")) >= 20}}
	case "call":
		return []refusal{{api.ErrArg, number(w[1]) < 1 || number(w[1]) > 90}, {api.ErrState, slices.Contains(o.calls(), number(w[1])) || open || closed}}
	case "claim":
		claimed := slices.ContainsFunc(o.claims(w[3]), func(e event) bool { return slices.Equal(e.words, w) })
		return []refusal{
			{api.ErrNone, !o.isTicket(w) || number(w[3]) < 1 || number(w[3]) > len(o.events("prize"))},
			{api.ErrState, !o.has("sell", w[1], w[2]) || o.isPaid(w[3]) || claimed || closed},
			{api.ErrFalse, !o.isWon(w)},
		}
	case "close":
		return []refusal{{api.ErrState, open || closed}}
	case "open":
		c, e := o.config(w)
		return []refusal{{api.ErrState, open || closed || len(o.calls()) == 90}, {api.ErrArg, e != api.OK}, {api.ErrArg, draw.Check(c) != api.OK}}
	case "deal", "complain", "answer", "reveal", "share":
		return []refusal{{api.ErrState, !open}, {api.ErrLong, len(w) > 66}, {api.ErrFull, open && len(*listFor(o.board(), w[0])) >= 100}}
	case "ball":
		return []refusal{{api.ErrState, !open}, {api.ErrNone, o.drawn() == 0}}
	}
	return o.refusalsOfQuestions(w)
}

func (o *oracle) refusalsOfQuestions(w []string) []refusal {
	switch w[0] {
	case "ticket", "left":
		return []refusal{{api.ErrNone, !o.isTicket(w)}}
	case "chance":
		return []refusal{{api.ErrNone, !o.isTicket(w)}, {api.ErrArg, number(w[3]) > 90-len(o.calls())}}
	case "serial":
		return []refusal{{api.ErrArg, number(w[1]) > 923520}}
	case "read":
		wrong := slices.ContainsFunc(w[1:], func(s string) bool { return number(s) > 30 })
		return []refusal{{api.ErrArg, wrong}, {api.ErrFar, !wrong && nearest(w[1:]) < 0}}
	case "judge":
		_, e := design.Judge(number(w[1]), number(w[2]), number(w[3]))
		return []refusal{{api.ErrArg, e != api.OK}}
	case "guilty":
		return []refusal{{api.ErrState, o.board() == nil}}
	}
	return nil
}

// told returns the answer to a line that is not refused.
func (o *oracle) told(w []string) string {
	switch w[0] {
	case "prize":
		return numbered("ok", len(o.events("prize"))+1)
	case "ball":
		return numbered("ok", o.drawn())
	case "ticket":
		return numbered("ticket", o.ticket(w)...)
	case "money":
		return numbered("money", o.won(w[1]))
	case "calls":
		return numbered("calls", o.calls()...)
	case "left":
		return numbered("left", o.left(w))
	case "chance":
		return "chance " + chanceThatAllCome(90-len(o.calls()), o.left(w), number(w[3]))
	case "serial":
		return numbered("serial", wordOf(number(w[1]))...)
	case "read":
		return numbered("read", nearest(w[1:]))
	case "judge":
		verdict, _ := design.Judge(number(w[1]), number(w[2]), number(w[3]))
		if verdict.Code == design.Place {
			return numbered("judge", verdict.Code, verdict.Place)
		}
		return numbered("judge", verdict.Code)
	case "guilty":
		return numbered("guilty", o.guilty()...)
	}
	return "ok"
}

func numbered(word string, list ...int) string {
	for _, n := range list {
		word += " " + strconv.Itoa(n)
	}
	return word
}

func number(word string) int {
	n, e := strconv.Atoi(word)
	if e != nil {
		panic(e)
	}
	return n
}

// events returns what was done by lines that begin with some words.
func (o *oracle) events(words ...string) []event {
	var list []event
	for _, e := range o.done {
		if len(e.words) >= len(words) && slices.Equal(e.words[:len(words)], words) {
			list = append(list, e)
		}
	}
	return list
}

func (o *oracle) has(words ...string) bool {
	return len(o.events(words...)) > 0
}

func isOnStrip(word string) bool {
	return slices.Contains([]string{"1", "2", "3", "4", "5", "6"}, word)
}

func (o *oracle) isTicket(w []string) bool {
	return o.has("strip", w[1]) && isOnStrip(w[2])
}

// ticket returns the 27 numbers of the ticket that a line names.
func (o *oracle) ticket(w []string) []int {
	var list []int
	for _, row := range stripOf(number(o.events("strip", w[1])[0].words[2]))[number(w[2])-1] {
		list = append(list, row[:]...)
	}
	return list
}

var strips = map[int][6]cover.Ticket{}

// stripOf makes each strip once.
func stripOf(seed int) [6]cover.Ticket {
	if _, is := strips[seed]; !is {
		strips[seed] = cover.Strip(uint64(seed))
	}
	return strips[seed]
}

func (o *oracle) calls() []int {
	var list []int
	for _, e := range o.done {
		switch e.words[0] {
		case "call":
			list = append(list, number(e.words[1]))
		case "ball":
			list = append(list, e.called)
		}
	}
	return list
}

func (o *oracle) left(w []string) int {
	left := 0
	for _, n := range o.ticket(w) {
		if n > 0 && !slices.Contains(o.calls(), n) {
			left++
		}
	}
	return left
}

// moment returns after how many calls a ticket reaches a goal, if the calls go on in any order: more than there were, if it has not.
func (o *oracle) moment(w []string, goal int) int {
	var moments []int
	for row := range slices.Chunk(o.ticket(w), 9) {
		moment := 0
		for _, n := range row {
			if at := slices.Index(o.calls(), n); n > 0 && at < 0 {
				moment = 1000
			} else if n > 0 {
				moment = max(moment, at+1)
			}
		}
		moments = append(moments, moment)
	}
	slices.Sort(moments)
	return moments[goal-1]
}

// isWon reports whether the ticket of a claim has reached the goal by the last call.
func (o *oracle) isWon(w []string) bool {
	prizes := o.events("prize")
	if !o.isTicket(w) || number(w[3]) < 1 || number(w[3]) > len(prizes) {
		return false
	}
	return o.moment(w, number(prizes[number(w[3])-1].words[1])) == len(o.calls())
}

func (o *oracle) claims(prize string) []event {
	return slices.DeleteFunc(o.events("claim"), func(e event) bool { return e.words[3] != prize })
}

// isPaid reports whether a number was called after a claim, or the night closed.
func (o *oracle) isPaid(prize string) bool {
	claimed := false
	for _, e := range o.done {
		switch e.words[0] {
		case "claim":
			claimed = claimed || e.words[3] == prize
		case "call", "ball", "close":
			if claimed {
				return true
			}
		}
	}
	return false
}

// parts returns what the accepted claims for a prize get: each of them gets 1 after the other, until nothing is left.
func parts(amount, count int) []int {
	list := make([]int, count)
	whole := amount / count
	for i := range list {
		list[i] = whole
	}
	for i := range amount - whole*count {
		list[i]++
	}
	return list
}

func (o *oracle) won(player string) int {
	sum := 0
	for i, p := range o.events("prize") {
		prize := strconv.Itoa(i + 1)
		if !o.isPaid(prize) {
			continue
		}
		claims := o.claims(prize)
		for j, part := range parts(number(p.words[2]), len(claims)) {
			if o.events("sell", claims[j].words[1], claims[j].words[2])[0].words[3] == player {
				sum += part
			}
		}
	}
	return sum
}

func (o *oracle) paid() int64 {
	sum := 0
	for i, p := range o.events("prize") {
		if o.isPaid(strconv.Itoa(i + 1)) {
			sum += number(p.words[2])
		}
	}
	return int64(sum)
}

func (o *oracle) put() int64 {
	sum := 0
	for _, p := range o.events("prize") {
		sum += number(p.words[2])
	}
	return int64(sum)
}

// config returns the draw that a line opens.
func (o *oracle) config(w []string) (draw.Config, api.Errno) {
	g, e := share.Find(int64(number(w[1])))
	return draw.Config{Group: g, Halls: number(w[2]), Bound: number(w[3]), Balls: 90 - len(o.calls())}, e
}

// opened returns where the open draw was opened; -1 if none is open.
func (o *oracle) opened() int {
	at := -1
	for i, e := range o.done {
		switch e.words[0] {
		case "open":
			at = i
		case "ball":
			at = -1
		}
	}
	return at
}

func listFor(b *draw.Board, first string) *[]draw.Line {
	return map[string]*[]draw.Line{"deal": &b.Deals, "complain": &b.Complaints, "answer": &b.Answers, "reveal": &b.Reveals, "share": &b.Reveals}[first]
}

// board returns what was posted for the open draw; nil if none is open.
func (o *oracle) board() *draw.Board {
	if o.opened() < 0 {
		return nil
	}
	b := &draw.Board{}
	for _, e := range o.done[o.opened():] {
		list := listFor(b, e.words[0])
		if list == nil {
			continue
		}
		var numbers []int64
		for _, w := range e.words[1:] {
			numbers = append(numbers, int64(number(w)))
		}
		l := draw.Line{Hall: int(numbers[0]), Kind: map[string]int{"deal": draw.Deal, "complain": draw.Complain, "answer": draw.Answer, "reveal": draw.Reveal, "share": draw.Open}[e.words[0]]}
		if l.Kind == draw.Deal || l.Kind == draw.Reveal {
			l.Numbers = numbers[1:]
		} else {
			l.Of, l.Numbers = int(numbers[1]), numbers[2:]
		}
		*list = append(*list, l)
	}
	return b
}

// drawn returns the number that the open draw calls; 0 if there is none.
func (o *oracle) drawn() int {
	if o.board() == nil {
		return 0
	}
	c, _ := o.config(o.done[o.opened()].words)
	ball, _ := draw.Ball(c, *o.board())
	for n := 1; n <= 90 && ball > 0; n++ {
		if !slices.Contains(o.calls(), n) {
			ball--
		}
		if ball == 0 {
			return n
		}
	}
	return 0
}

func (o *oracle) guilty() []int {
	c, _ := o.config(o.done[o.opened()].words)
	guilt, _ := draw.Guilty(c, *o.board())
	var halls []int
	for hall := 1; hall <= c.Halls; hall++ {
		if slices.ContainsFunc(guilt, func(g draw.Guilt) bool { return g.Hall == hall }) {
			halls = append(halls, hall)
		}
	}
	return halls
}

// chanceThatAllCome multiplies the chances of numbers that are missing: the first one is called with the chance calls / free, and so on.
func chanceThatAllCome(free, missing, calls int) string {
	chance := big.NewRat(1, 1)
	for i := range missing {
		chance.Mul(chance, big.NewRat(int64(max(0, calls-i)), int64(free-i)))
	}
	return chance.RatString()
}

// wordOf returns the values of a polynomial modulo 31 whose coefficients are the last digits of a number to the base 31.
func wordOf(n int) []int {
	var word []int
	for x := 1; x <= 8; x++ {
		word = append(word, (n%31+n/31%31*x+n/961%31*x*x+n/29791%31*x*x*x)%31)
	}
	return word
}

// nearest returns the number whose word differs from some words in at most two places; -1 if there is none. All numbers are tried.
func nearest(words []string) int {
	var received [8]int
	for i, w := range words {
		received[i] = number(w)
	}
	for n := range 923521 {
		a, b, c, d := n%31, n/31%31, n/961%31, n/29791
		wrong := 0
		for i := 0; i < 8 && wrong < 3; i++ {
			x := i + 1
			if (a+x*(b+x*(c+x*d)))%31 != received[i] {
				wrong++
			}
		}
		if wrong < 3 {
			return n
		}
	}
	return -1
}

// expectAgreed checks that a night tells the same as the oracle.
func (o *oracle) expectAgreed(t *testing.T, n *hall.Night) {
	t.Helper()
	expectSame(t, "Book", n.Book(), o.book())
	expectSame(t, "Calls", slices.Equal(n.Calls(), o.calls()), true)
	expectSame(t, "Paid", n.Paid(), o.paid())
	expectSame(t, "Put", n.Put(), o.put())
	for _, player := range players() {
		expectSame(t, "Won of "+player, n.Won(player), int64(o.won(player)))
	}
}
