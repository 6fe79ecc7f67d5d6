package hall_test

import (
	"math/rand/v2"
	"strings"
	"testing"

	"dauber/api"
	"dauber/hall"
)

// someBytes are any bytes, or those of lines.
func someBytes(r *rand.Rand) string {
	list := make([]byte, r.IntN(oneOf(r, 3, 20, 600)))
	const usual = "0123456789 abcdefghijklmnopqrstuvwxyz#\n"
	for i := range list {
		list[i] = oneOf(r, byte(r.IntN(256)), usual[r.IntN(len(usual))], ' ', '1')
	}
	return string(list)
}

// spoiled returns a line with some byte changed, left out or put in.
func spoiled(r *rand.Rand, line string) string {
	at := r.IntN(len(line) + 1)
	rest := line[at:]
	if len(rest) > 0 && r.IntN(2) == 0 {
		rest = rest[1:]
	}
	return line[:at] + oneOf(r, "", " ", "0", "1", "a", "\t", "\xff", "é", "-", string([]byte{byte(r.IntN(256))})) + rest
}

// P1, P10.1: any bytes are answered as the oracle does.
func TestAnyBytes(t *testing.T) {
	r := newRandom()
	n, o := usable(t), &oracle{}
	answers := map[string]int{}
	for range 6000 {
		line := oneOf(r, someBytes(r), spoiled(r, oneOf(r, sampleLines()...)), spoiled(r, spoiled(r, oneOf(r, sampleLines()...))))
		if strings.HasPrefix(line, "read") && isLine(line) {
			continue
		}
		if len(o.done) == 0 || len(o.done) > 30 {
			n, o = usable(t), &oracle{}
			for _, line := range linesOf(n.Book()) {
				o.do(line)
			}
		}
		want := o.do(line)
		if got := n.Do(line); got != want {
			t.Fatalf("after\n%s%q: %q, not %q", o.book(), line, got, want)
		}
		answers[want]++
	}
	for _, answer := range []string{"", "ok", "error 2", "error 4", "error 5", "error 100"} {
		if answers[answer] < 10 {
			t.Errorf("%q was the answer %d times", answer, answers[answer])
		}
	}
}

// P1, P10.3: Run of any bytes is what Do answers line by line.
func TestRunOfAnyBytes(t *testing.T) {
	r := newRandom()
	for range 300 {
		lines := someScript(r, 40)
		for range r.IntN(8) {
			lines[r.IntN(len(lines))] = oneOf(r, someBytes(r), spoiled(r, oneOf(r, lines...)))
		}
		text := strings.Join(lines, "\n")
		n := hall.New()
		var want strings.Builder
		for _, line := range strings.Split(text, "\n") {
			if answer := n.Do(line); answer != "" {
				want.WriteString(answer + "\n")
			}
		}
		expectRun(t, text, want.String(), api.OK)
		expectRun(t, text+"\n", want.String(), api.OK)
		expectRun(t, text, want.String(), api.OK)
	}
}
