package hall_test

import (
	"slices"
	"strconv"
	"strings"
	"testing"

	"dauber/api"
	"dauber/hall"
)

// linesOf cuts a text at its line feeds.
func linesOf(text string) []string {
	list := strings.Split(text, "\n")
	return list[:len(list)-1]
}

// P10.1, P10.2: nights of all kinds of lines, by the oracle.
func TestNights(t *testing.T) {
	r := newRandom()
	seen := map[string]int{}
	for range 90 {
		n := hall.New()
		var o oracle
		for _, line := range someScript(r, 150) {
			want := o.do(line)
			if got := n.Do(line); got != want {
				t.Fatalf("after\n%s%.60q: %q, not %q", o.book(), line, got, want)
			}
			if want != "" && want != "error 100" && want != "error 2" {
				seen[strings.Split(line, " ")[0]+" "+strings.Split(want, " ")[0]]++
			}
			o.expectAgreed(t, n)
		}
	}
	for first := range kinds {
		if first == "read" {
			continue
		}
		if answer := "ok"; seen[first+" "+answer] < 15 && seen[first+" "+first] < 15 {
			t.Errorf("%s was done %d times", first, seen[first+" "+answer]+seen[first+" "+first])
		}
	}
}

// P10.4: the book of a night, done again at every moment, makes the same night.
func TestBookIsNight(t *testing.T) {
	r := newRandom()
	for range 15 {
		n := hall.New()
		for _, line := range someScript(r, 100) {
			if answer := n.Do(line); !strings.HasPrefix(answer, "ok") {
				continue
			}
			again := hall.New()
			do(t, again, linesOf(n.Book())...)
			if stateOf(again) != stateOf(n) {
				t.Fatalf("not the same night:\n%s", n.Book())
			}
		}
		answers, e := hall.Run(n.Book())
		expectSame(t, "Run", e, api.OK)
		for _, answer := range linesOf(answers) {
			if !strings.HasPrefix(answer, "ok") {
				t.Errorf("the book is answered %q", answer)
			}
		}
	}
}

// P10.5: what is refused, asked and commented can be left out, and put in anywhere.
func TestRefusedHasNoEffect(t *testing.T) {
	r := newRandom()
	for range 60 {
		script := someScript(r, 120)
		n := hall.New()
		var answers []string
		for _, line := range script {
			if answer := n.Do(line); strings.HasPrefix(answer, "ok") {
				answers = append(answers, answer)
			}
		}
		done := linesOf(n.Book())
		expectAnswers(t, done, answers, n)
		var more []string
		for _, line := range done {
			more = append(more, line)
			for range r.IntN(4) {
				more = append(more, oneOf(r, script...))
			}
		}
		expectWithout(t, more)
	}
}

// expectAnswers does lines, and checks their answers and the state at last.
func expectAnswers(t *testing.T, lines, answers []string, want *hall.Night) {
	t.Helper()
	n := hall.New()
	var got []string
	for _, line := range lines {
		got = append(got, n.Do(line))
	}
	expectSame(t, "answers", got, answers)
	expectSame(t, "state", stateOf(n), stateOf(want))
}

// expectWithout checks that the lines have the same answers if those that do nothing are left out.
func expectWithout(t *testing.T, lines []string) {
	t.Helper()
	with, without := hall.New(), hall.New()
	for _, line := range lines {
		before := with.Book()
		answer := with.Do(line)
		if with.Book() == before {
			if strings.HasPrefix(answer, "ok") {
				t.Fatalf("%q: %q, but it is not in the book", line, answer)
			}
			continue
		}
		expectSame(t, line, without.Do(line), answer)
	}
	expectSame(t, "state", stateOf(without), stateOf(with))
}

// P10.6: after each line the players have what was paid. The amounts of the prizes are powers of 2: what is paid tells which ones are, and they stay so.
func TestMoneyAddsUp(t *testing.T) {
	r := newRandom()
	payments := 0
	for range 100 {
		n := hall.New()
		for _, line := range someScript(r, 150) {
			if w := strings.Split(line, " "); w[0] == "prize" && len(w) == 3 {
				line = "prize " + w[1] + " " + strconv.FormatInt(n.Put()+1, 10)
			}
			before := n.Paid()
			n.Do(line)
			var sum int64
			for _, player := range players() {
				sum += n.Won(player)
			}
			if sum != n.Paid() || n.Paid()&^n.Put() != 0 || before&^n.Paid() != 0 {
				t.Fatalf("%s\nthe players have %d, paid %d, before %d, put %d", n.Book(), sum, n.Paid(), before, n.Put())
			}
			if n.Paid() != before {
				payments++
			}
		}
	}
	if payments < 100 {
		t.Errorf("%d payments", payments)
	}
}

// P10.7: for each ticket and prize one claim, and all claims for a prize after the same call.
func TestClaimsAtTheCall(t *testing.T) {
	r := newRandom()
	accepted := 0
	for range 100 {
		n := hall.New()
		seen, moments := map[string]bool{}, map[string]int{}
		for _, line := range someScript(r, 150) {
			if answer := n.Do(line); answer != "ok" || !strings.HasPrefix(line, "claim ") {
				continue
			}
			prize := strings.Split(line, " ")[3]
			if seen[line] || moments[prize] != 0 && moments[prize] != len(n.Calls()) {
				t.Fatalf("%s: %d calls, before %d", n.Book(), len(n.Calls()), moments[prize])
			}
			seen[line], moments[prize] = true, len(n.Calls())
			accepted++
		}
	}
	if accepted < 200 {
		t.Errorf("%d claims were accepted", accepted)
	}
}

// P10.8: a ball stays the same, whatever lines of the same draw are revealed or shared again, or anew.
func TestSameBall(t *testing.T) {
	r := newRandom()
	balls := 0
	for range 60 {
		n := hall.New()
		o := &oracle{}
		a := author{r: r, o: o}
		want := "error 4"
		for _, line := range someScript(r, 150) {
			n.Do(line)
			o.do(line)
			first := strings.Split(line, " ")[0]
			if first != "reveal" && first != "share" {
				want = "error 4"
				continue
			}
			fork := n.Fork()
			for range r.IntN(5) {
				if more := a.post(); strings.HasPrefix(more, "reveal") || strings.HasPrefix(more, "share") {
					fork.Do(more)
				}
			}
			got := n.Fork().Do("ball")
			if after := fork.Do("ball"); want != "error 4" && got != want || strings.HasPrefix(got, "ok") && after != got {
				t.Fatalf("%s\nthe balls %q, %q, %q", n.Book(), want, got, after)
			}
			if strings.HasPrefix(got, "ok") {
				want = got
				balls++
			}
		}
	}
	if balls < 100 {
		t.Errorf("%d balls", balls)
	}
}

// P10.2: forks that go on with different lines, at any moment, each like a night of its own.
func TestForksOfNights(t *testing.T) {
	r := newRandom()
	for range 40 {
		script := someScript(r, 120)
		at := r.IntN(len(script))
		n := hall.New()
		var o oracle
		for _, line := range script[:at] {
			n.Do(line)
			o.do(line)
		}
		fork, other := n.Fork(), oracle{done: slices.Clone(o.done)}
		for _, line := range script[at:] {
			expectSame(t, line, n.Do(line), o.do(line))
			line = oneOf(r, script...)
			expectSame(t, line, fork.Do(line), other.do(line))
		}
		o.expectAgreed(t, n)
		other.expectAgreed(t, fork)
		for _, question := range []string{"calls", "guilty", "left a 1", "left b 2", "ball"} {
			expectSame(t, question, n.Do(question), o.do(question))
			expectSame(t, question, fork.Do(question), other.do(question))
		}
	}
}
