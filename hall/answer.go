package hall

import (
	"errors"
	"strconv"
	"strings"

	"dauber/api"
)

// ok is the answer to a command that is done.
const ok = "ok"

// joined returns a word and numbers behind it, with blanks between them.
func joined[N int | int64](word string, numbers ...N) string {
	words := []string{word}
	for _, n := range numbers {
		words = append(words, strconv.FormatInt(int64(n), 10))
	}
	return strings.Join(words, " ")
}

// refusal is the code with which a line is refused.
type refusal api.Errno

func (r refusal) Error() string {
	return joined("error", int(r))
}

// refuse returns what a line that is refused comes to.
func refuse(e api.Errno) (string, error) {
	return "", refusal(e)
}

// lineError is a line that was not done, and why.
type lineError struct {
	line  string
	cause error
}

func (e lineError) Error() string {
	return e.line + ": " + e.cause.Error()
}

func (e lineError) Unwrap() error {
	return e.cause
}

// told returns the answer to a line that was not done: the refusal that the error wraps.
func told(e error) string {
	var r refusal
	errors.As(e, &r)
	return r.Error()
}
