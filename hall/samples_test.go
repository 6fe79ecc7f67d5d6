package hall_test

import (
	"math/rand/v2"
	"reflect"
	"strconv"
	"strings"
	"testing"

	"dauber/cover"
	"dauber/hall"
)

func newRandom() *rand.Rand {
	return rand.New(rand.NewPCG(10, 8))
}

func oneOf[T any](r *rand.Rand, list ...T) T {
	return list[r.IntN(len(list))]
}

func expectSame(t *testing.T, what string, got, want any) {
	t.Helper()
	if !reflect.DeepEqual(got, want) {
		t.Errorf("%s: %v, not %v", what, got, want)
	}
}

// play does lines, each of them followed by its answer.
func play(t *testing.T, n *hall.Night, pairs ...string) {
	t.Helper()
	for i := 0; i < len(pairs); i += 2 {
		if got := n.Do(pairs[i]); got != pairs[i+1] {
			t.Errorf("%.60q: %q, not %q", pairs[i], got, pairs[i+1])
		}
	}
}

// expectRefused does lines that have the same answer, and checks that none has an effect.
func expectRefused(t *testing.T, n *hall.Night, want string, lines ...string) {
	t.Helper()
	before := stateOf(n)
	for _, line := range lines {
		play(t, n, line, want)
		if stateOf(n) != before {
			t.Fatalf("%q has an effect", line)
		}
	}
}

// do does lines that must be done.
func do(t *testing.T, n *hall.Night, lines ...string) {
	t.Helper()
	for _, line := range lines {
		if got := n.Do(line); !strings.HasPrefix(got, "ok") {
			t.Fatalf("%s: %q", line, got)
		}
	}
}

// after returns a night in which lines were done.
func after(t *testing.T, lines ...string) *hall.Night {
	t.Helper()
	n := hall.New()
	do(t, n, lines...)
	return n
}

// stateOf writes down what a night tells of itself.
func stateOf(n *hall.Night) string {
	state := []string{n.Book(), strconv.FormatInt(n.Paid(), 10), strconv.FormatInt(n.Put(), 10)}
	for _, call := range n.Calls() {
		state = append(state, strconv.Itoa(call))
	}
	return strings.Join(append(state, answersOf(n)...), "\n")
}

// players are those of all nights, and two names that are of none.
func players() []string {
	return []string{"ann", "bob", "call", "z9", "nobody", ""}
}

// allQuestions are those about all that a night can have.
func allQuestions() []string {
	list := []string{"calls", "guilty", "serial 77", "read 1 1 1 5 1 1 6 1", "judge 43 7 1"}
	for _, player := range players() {
		list = append(list, "money "+player)
	}
	for _, s := range []string{"a", "b", "c", "nothing"} {
		for i := range 8 {
			at := s + " " + strconv.Itoa(i)
			list = append(list, "ticket "+at, "left "+at, "chance "+at+" 0", "chance "+at+" 20", "chance "+at+" 80")
		}
	}
	return list
}

func answersOf(n *hall.Night) []string {
	var list []string
	for _, question := range allQuestions() {
		list = append(list, n.Do(question))
	}
	return list
}

// rowsOf returns the numbers of the rows of a ticket from a strip's seed.
func rowsOf(seed, number int) [3][]int {
	var rows [3][]int
	for i, row := range cover.Strip(uint64(seed))[number-1] {
		for _, n := range row {
			if n != 0 {
				rows[i] = append(rows[i], n)
			}
		}
	}
	return rows
}

// calling returns the lines that call numbers.
func calling(lists ...[]int) []string {
	var lines []string
	for _, list := range lists {
		for _, n := range list {
			lines = append(lines, "call "+strconv.Itoa(n))
		}
	}
	return lines
}

// upTo returns the numbers from 1 on.
func upTo(n int) []int {
	var list []int
	for i := range n {
		list = append(list, i+1)
	}
	return list
}

// ones returns a line with so many numbers behind it.
func ones(line string, count int) string {
	return line + strings.Repeat(" 1", count)
}
