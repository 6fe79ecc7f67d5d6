package hall_test

import (
	"strings"
	"testing"

	"dauber/api"
	"dauber/hall"
)

func expectRun(t *testing.T, text, want string, code api.Errno) {
	t.Helper()
	got, e := hall.Run(text)
	if got != want || e != code {
		t.Errorf("Run(%.60q): %.60q, %d, not %.60q, %d", text, got, e, want, code)
	}
}

// P10.3: lines and answers, with and without a last line feed, and comments.
func TestRun(t *testing.T) {
	for text, want := range map[string]string{
		"":                              "",
		"\n":                            "",
		"\n\n\n":                        "",
		"# a":                           "",
		"# a\n#\n\n":                    "",
		"calls":                         "calls\n",
		"calls\n":                       "calls\n",
		"\ncalls\n\n":                   "calls\n",
		"calls\n# no\ncall 7\n\ncalls":  "calls\nok\ncalls 7\n",
		" \n":                           "error 100\n",
		" ":                             "error 100\n",
		"call 1\r\ncall 2":              "error 100\nok\n",
		"\xff\ncall 2\n":                "error 100\nok\n",
		"call 2 \n call 2\ncall 2\n\t":  "error 100\nerror 100\nok\nerror 100\n",
		"prize 1 1\nprize 1 1\ncall 91": "ok 1\nok 2\nerror 1\n",
		"strip a 1\nstrip a 1\nsell a 1 ann\nmoney ann\nleft a 1\nno\nguilty\nclose\ncall 1": "ok\nerror 5\nok\nmoney 0\nleft 15\nerror 100\nerror 5\nok\nerror 5\n",
		strings.Join(honestDraw(), "\n") + "\nball":                                          strings.Repeat("ok\n", 7) + "ok 11\n",
	} {
		expectRun(t, text, want, api.OK)
		expectRun(t, text+"\n", want, api.OK)
		expectRun(t, "#\n"+text, want, api.OK)
	}
}

// P10.3: lines that are too long are answered like others; comments that are too long are none.
func TestRunLongLines(t *testing.T) {
	expectRun(t, "#"+strings.Repeat("x", 511)+"\n#"+strings.Repeat("x", 512)+"\n", "error 2\n", api.OK)
	expectRun(t, longLine(513)+"\n"+longLine(512)+"\nopen 11 3 1\n"+longLine(512)+"\n"+longLine(513), "error 2\nerror 5\nok\nok\nerror 2\n", api.OK)
	expectRun(t, strings.Repeat("x", 65536), "error 2\n", api.OK)
}

// P10.3: texts of as many bytes as there may be, and of one more, whatever else they are.
func TestRunLongTexts(t *testing.T) {
	line := "call 1\n"
	count := 65536 / len(line)
	expectRun(t, strings.Repeat("x", 65537), "", api.ErrLong)
	expectRun(t, strings.Repeat(" ", 65535)+"\n", "error 2\n", api.OK)
	expectRun(t, strings.Repeat(" ", 65536)+"\n", "", api.ErrLong)
	comments := strings.Repeat("#"+strings.Repeat("x", 510)+"\n", 128)
	expectSame(t, "length", len(comments), 65536)
	expectRun(t, comments, "", api.OK)
	expectRun(t, "#"+comments[7:]+"call 1", "ok\n", api.OK)
	expectRun(t, "#"+comments[6:]+"call 1", "", api.ErrLong)
	expectRun(t, comments+"#", "", api.ErrLong)
	expectRun(t, comments+"\n", "", api.ErrLong)
	expectRun(t, strings.Repeat(line, count), "", api.ErrLong)
	expectRun(t, strings.Repeat("ü", 32768), "error 2\n", api.OK)
	expectRun(t, strings.Repeat("ü", 32769), "", api.ErrLong)
}

// P10.3: texts of as many line feeds as there may be, and of one more.
func TestRunManyLines(t *testing.T) {
	expectRun(t, strings.Repeat("\n", 2000), "", api.OK)
	expectRun(t, strings.Repeat("\n", 2001), "", api.ErrLong)
	expectRun(t, strings.Repeat("calls\n", 2000), strings.Repeat("calls\n", 2000), api.OK)
	expectRun(t, strings.Repeat("calls\n", 2000)+"call 7", strings.Repeat("calls\n", 2000)+"ok\n", api.OK)
	expectRun(t, strings.Repeat("calls\n", 2000)+"\n", "", api.ErrLong)
	expectRun(t, strings.Repeat("calls\n", 2000)+"call 7\n", "", api.ErrLong)
	expectRun(t, strings.Repeat("#\n", 2001), "", api.ErrLong)
	expectRun(t, "\n"+strings.Repeat("calls\n", 2000), "", api.ErrLong)
	expectRun(t, strings.Repeat("\n", 65536), "", api.ErrLong)
}

// P10.3: each Run has a night of its own.
func TestRunsAreNew(t *testing.T) {
	for range 3 {
		expectRun(t, "strip a 1\nprize 1 5\ncall 1\nopen 11 2 0\n", "ok\nok 1\nok\nok\n", api.OK)
	}
}

// P10.3: a whole night, as the examples of the chapter tell.
func TestExamples(t *testing.T) {
	lines := append([]string{"strip a 1", "sell a 1 ann", "prize 1 100"}, calling(rowsOf(1, 1)[0])...)
	want := "ok\nok\nok 1\n" + strings.Repeat("ok\n", 5) + "ok\nok\nmoney 100\n"
	expectRun(t, strings.Join(append(lines, "claim a 1 1", "close", "money ann"), "\n"), want, api.OK)
	expectRun(t, strings.Join(append(honestDraw(), "ball"), "\n"), strings.Repeat("ok\n", 7)+"ok 11\n", api.OK)
	expectRun(t, "serial 1\nread 1 1 1 5 1 1 6 1\njudge 43 7 1", "serial 1 1 1 1 1 1 1 1\nread 1\njudge 4 2\n", api.OK)
}
