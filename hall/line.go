package hall

import (
	"strings"

	"dauber/api"
)

// deed does what a line says, and returns the answer; or a refusal, and then it has done nothing.
type deed func() (string, error)

// form takes the words behind the first one, and returns what is to be done with them.
type form func(r *reader) deed

// read returns what a line says, and whether it is a command. What is no line leaves it by a panic.
func (n *Night) read(line string) (do deed, isCommand bool) {
	r := split(line)
	first := r.word()
	f, isCommand := n.commands()[first]
	if !isCommand {
		f = n.questions()[first]
	}
	if f == nil {
		panic(noLine{})
	}
	do = f(r)
	r.end()
	return do, isCommand
}

// Do does a command or answers a question.
func (n *Night) Do(line string) (answer string) {
	defer func() {
		if recover() != nil {
			answer = told(lineError{line, refusal(api.ErrLine)})
		}
	}()
	switch {
	case n == nil:
		return told(refusal(api.ErrNil))
	case len(line) > api.MaxLine || strings.Contains(line, "\n"):
		return told(lineError{line, refusal(api.ErrLong)})
	case isComment(line):
		return ""
	}
	do, isCommand := n.read(line)
	answer, e := do()
	if e != nil {
		return told(lineError{line, e})
	}
	if isCommand {
		n.book = append(n.book, line)
	}
	return answer
}
