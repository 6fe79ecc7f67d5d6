package hall_test

import (
	"strings"
	"testing"

	"dauber/hall"
)

// usable returns a night with strips, prizes, and an open draw: many lines that are well formed are refused, but none because it is no line.
func usable(t *testing.T) *hall.Night {
	t.Helper()
	return after(t, "strip a 1", "sell a 1 ann", "prize 1 100", "open 11 3 1")
}

// sampleLines are one for each form.
func sampleLines() []string {
	return []string{
		"strip b 7", "sell a 2 bob", "prize 2 10", "call 5", "claim a 1 1", "close", "open 11 3 1", "ball",
		"deal 1 8 18", "deal 1 8", "complain 1 2", "answer 1 2 3", "reveal 1 7 3", "reveal 1 7", "share 1 2 3",
		"ticket a 1", "money ann", "calls", "left a 1", "chance a 1 5", "serial 1", "read 1 1 1 5 1 1 6 1", "judge 43 7 1", "guilty",
	}
}

// expectNoLine checks that lines are none, in nights in which the same words could do something.
func expectNoLine(t *testing.T, lines ...string) {
	t.Helper()
	for _, n := range []*hall.Night{hall.New(), usable(t)} {
		expectRefused(t, n, "error 100", lines...)
	}
}

// expectLine checks that lines are some.
func expectLine(t *testing.T, lines ...string) {
	t.Helper()
	for _, line := range lines {
		if answer := usable(t).Do(line); answer == "error 100" || answer == "" {
			t.Errorf("%q: %q", line, answer)
		}
	}
}

// P10.1: the oracle and the samples know the same forms.
func TestSamples(t *testing.T) {
	seen := map[string]bool{}
	for _, line := range sampleLines() {
		expectSame(t, line, isLine(line), true)
		expectLine(t, line)
		seen[strings.Split(line, " ")[0]] = true
	}
	expectSame(t, "forms", len(seen), len(kinds))
}

// P10.1: comments have an empty answer, and no effect.
func TestComments(t *testing.T) {
	for _, n := range []*hall.Night{hall.New(), usable(t)} {
		expectRefused(t, n, "", "", "#", "# ", "##", "#call 1", "# call 1", "#\xff\xfe", "#\tx", "# ü", "#\x00", "#\r", "#"+strings.Repeat("x", 510), "#"+strings.Repeat("x", 511), "#"+strings.Repeat(" ", 511))
		expectRefused(t, n, "error 2", "#"+strings.Repeat("x", 512), "#"+strings.Repeat(" ", 512), "#"+strings.Repeat("x", 100000), "#\n", "\n#", "\n", "\n\n", "# a\nb", "#"+strings.Repeat("\n", 511))
		expectRefused(t, n, "error 100", " ", "  ", "\t", " #", " # x", "x#", "calls #", "calls # x", "calls#", "strip #a 1", "\r", "\x00", "\xff", "ü", ";", "//")
	}
}

// longLine returns a deal with 64 numbers that has just so many bytes.
func longLine(bytes int) string {
	line := "deal 1" + strings.Repeat(" 1000000", 62)
	return line + " 1 1" + strings.Repeat("0", bytes-len(line)-4)
}

// P10.1: lines that are commands otherwise, of as many bytes as there may be, and one more.
func TestLongLines(t *testing.T) {
	n := usable(t)
	expectSame(t, "length", len(longLine(512)), 512)
	expectSame(t, "command", isLine(longLine(512)) && isLine(longLine(513)), true)
	play(t, n, longLine(511), "ok", longLine(512), "ok")
	expectSame(t, "lines of the book", strings.Count(n.Book(), longLine(512)+"\n"), 1)
	expectRefused(t, n, "error 2", longLine(513), longLine(514), strings.Repeat("a", 513), strings.Repeat(" ", 513), "calls"+strings.Repeat(" ", 508), strings.Repeat("\xff", 513), strings.Repeat("call 1 ", 100), strings.Repeat("0", 100000), ones("deal 1", 300), ones("no 1", 300))
	expectRefused(t, n, "error 100", strings.Repeat("a", 512), strings.Repeat(" ", 512), "calls"+strings.Repeat(" ", 507), strings.Repeat("\xff", 512), "call "+strings.Repeat("1", 507), strings.Repeat("ü", 256), "call "+strings.Repeat("0", 507))
	expectRefused(t, n, "error 2", strings.Repeat("ü", 257))
}

// P10.1: a line feed, wherever it is, comes before all else.
func TestLineFeeds(t *testing.T) {
	for _, line := range append(sampleLines(), "", "#", "no line", " ", "call 01", strings.Repeat("x", 513)) {
		for _, at := range []int{0, len(line) / 2, len(line)} {
			expectRefused(t, usable(t), "error 2", line[:at]+"\n"+line[at:], line[:at]+"\n\n"+line[at:], line[:at]+" \n "+line[at:], line[:at]+"\r\n"+line[at:])
		}
	}
}

// P10.1: words have one blank between them, and nothing else is one.
func TestBlanks(t *testing.T) {
	for _, line := range sampleLines() {
		lines := []string{" " + line, line + " ", "  " + line, line + "  ", " " + line + " ", "\t" + line, line + "\t", line + "\r", "\xa0" + line, line + "\u00a0", line + "\u3000", line + "\x00", line + "\v", line + "\f"}
		for i := range line {
			if line[i] != ' ' {
				continue
			}
			for _, between := range []string{"  ", "   ", "\t", " \t", "\t ", "\u00a0", "\xa0", "\r", "", ",", "+", "\x00", "\v"} {
				if between != "" || !isLine(line[:i]+line[i+1:]) {
					lines = append(lines, line[:i]+between+line[i+1:])
				}
			}
		}
		expectNoLine(t, lines...)
	}
}

// P10.1: bytes that are none of a word, at each place of each line.
func TestStrangeBytes(t *testing.T) {
	for _, line := range sampleLines() {
		var lines []string
		for i := range len(line) + 1 {
			for _, strange := range []string{"\xff", "\xc3", "\x80", "\xed\xa0\x80", "ü", "\ufffd", "é", "１", "٣", "ａ", "-", "_", ".", "A", "Z", "\x7f", "\u200b", "`", "{", "/", ":"} {
				lines = append(lines, line[:i]+strange+line[i:])
				if i < len(line) {
					lines = append(lines, line[:i]+strange+line[i+1:])
				}
			}
		}
		n := usable(t)
		for _, line := range lines {
			play(t, n, line, "error 100")
		}
		expectSame(t, "effect of strange bytes in "+line, stateOf(n), stateOf(usable(t)))
	}
}

// P10.1: each form with words too few and too many, and with a name where a number must be and the reverse.
func TestWords(t *testing.T) {
	for _, line := range sampleLines() {
		w := strings.Split(line, " ")
		kind := kinds[w[0]]
		for count := 1; count < len(w); count++ {
			if short := strings.Join(w[:count], " "); !(strings.HasSuffix(kind, "*") && count == 3) {
				expectNoLine(t, short)
			}
		}
		if strings.HasSuffix(kind, "*") {
			expectLine(t, line+" 1", line+" 1 1", ones(line, 62))
			expectNoLine(t, line+" x", line+" 1 x", ones(line, 62)+" x", ones(line, 70)+" x", ones(line, 70)+" 01")
		} else {
			expectNoLine(t, line+" 1", line+" a", line+" 1 1", line+" a a", line+" "+line, line+" calls")
		}
		for i := 1; i < len(w); i++ {
			if strings.HasPrefix(kind[min(i, len(kind))-1:], "a") {
				expectSlot(t, w, i, names(), numbersThatAreNoNames())
			} else {
				expectSlot(t, w, i, numbers(), noNumbers())
			}
		}
	}
}

// expectSlot puts words into a place of a line.
func expectSlot(t *testing.T, w []string, at int, right, wrong []string) {
	t.Helper()
	line := func(word string) string {
		before, behind := strings.Join(w[:at], " ")+" ", ""
		if at+1 < len(w) {
			behind = " " + strings.Join(w[at+1:], " ")
		}
		return before + word + behind
	}
	for _, word := range right {
		expectLine(t, line(word))
	}
	n, m := hall.New(), usable(t)
	for _, word := range wrong {
		play(t, n, line(word), "error 100")
		play(t, m, line(word), "error 100")
	}
	expectSame(t, "effect of wrong words", []string{stateOf(n), stateOf(m)}, []string{stateOf(hall.New()), stateOf(usable(t))})
}

func numbers() []string {
	return []string{"0", "1", "9", "10", "31", "90", "100", "999999999999", "1000000000000"}
}

func noNumbers() []string {
	return []string{
		"", "00", "01", "000", "-1", "-0", "+1", "+0", "1000000000001", "1000000000009", "1000000000010", "1100000000000", "2000000000000", "9999999999999", "10000000000000", "01000000000000", "99999999999999999999", "18446744073709551617", "9223372036854775808", "36893488147419103233", "100000000000000000000000000000001",
		strings.Repeat("1", 400), strings.Repeat("0", 400), "1" + strings.Repeat("0", 399), "1e3", "1.0", "1,000", "1_000", "0x1", "0b1", "0o1", "1a", "a", "a1", "one", "call", "１", "١", "1１", "²", "1²", "½", "1\xff", "\xb2",
	}
}

func names() []string {
	return []string{"a", "z", "b2", "a0", "z9", "ann", "call", "strip", "guilty", "ok", "error", "abcdefghijkl", "a12345678901", "zzzzzzzzzzzz"}
}

func numbersThatAreNoNames() []string {
	return []string{
		"", "0", "1", "42", "1a", "9a", "0a", "abcdefghijklm", "a123456789012", strings.Repeat("a", 100), strings.Repeat("a", 400), "A", "Ann", "aNn", "anN", "ANN", "ü", "aü", "é", "ａ", "a１", "aß", "ı", "a_b", "a-b", "a.b", "_a", "a\xff", "\xffa", "\x80", "a\x00", "a\t", "`", "{", "@", "[", "a/", "a:",
	}
}

// P10.1: other first words.
func TestFirstWords(t *testing.T) {
	for _, line := range sampleLines() {
		w := strings.SplitN(line, " ", 2)
		rest := strings.TrimPrefix(line, w[0])
		var lines []string
		for _, first := range []string{strings.ToUpper(w[0]), strings.ToUpper(w[0][:1]) + w[0][1:], w[0] + "s", w[0][1:], w[0][:len(w[0])-1], w[0] + "1", "x" + w[0], "", "1", "ok", "error", "quit", "help"} {
			if first+rest != "" && !isLine(first+rest) {
				lines = append(lines, first+rest)
			}
		}
		expectNoLine(t, lines...)
	}
}

// P10.1: names that are the first words of commands, and names of 12 letters, are names like others.
func TestNames(t *testing.T) {
	for _, name := range names() {
		n := hall.New()
		play(t, n, "strip "+name+" 1", "ok", "strip "+name+" 1", "error 5", "sell "+name+" 1 "+name, "ok", "left "+name+" 1", "left 15", "prize 1 5", "ok 1")
		do(t, n, calling(rowsOf(1, 1)[0])...)
		play(t, n, "claim "+name+" 1 1", "ok", "close", "ok", "money "+name, "money 5")
		expectSame(t, "Won of "+name, n.Won(name), int64(5))
		expectSame(t, "Won of "+name+"x", n.Won(name+"x"), int64(0))
	}
}

// P10.1: the book has the lines of the commands that were done, and no others.
func TestBook(t *testing.T) {
	n := hall.New()
	expectSame(t, "Book", n.Book(), "")
	play(t, n, "strip a 1", "ok", "strip a 1", "error 5", "# strip b 1", "", "", "", "ticket a 9", "error 4", "sell a 1 ann", "ok", "money ann", "money 0", "prize 3 12", "ok 1")
	expectSame(t, "Book", n.Book(), "strip a 1\nsell a 1 ann\nprize 3 12\n")
	play(t, n, "calls", "calls", "no", "error 100", "call 91", "error 1", "open 11 2 0", "ok", "guilty", "guilty", "deal 1 4", "ok", "deal 1 01", "error 100", "ball", "error 4", "reveal 1 1", "ok", "ball", "ok 2", "close\n", "error 2", "close", "ok")
	book := "strip a 1\nsell a 1 ann\nprize 3 12\nopen 11 2 0\ndeal 1 4\nreveal 1 1\nball\nclose\n"
	expectSame(t, "Book", n.Book(), book)
	play(t, n, "close", "error 5", "calls", "calls 2", "call 3", "error 5")
	expectSame(t, "Book", n.Book(), book)
}
