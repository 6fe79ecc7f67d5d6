package hall

import (
	"strings"

	"dauber/api"
)

// maxText is how many bytes a script may have.
const maxText = 65536

// Run returns the answers of a new night to the lines of a text; or ErrLong if it has more than 65536 bytes, or more than api.MaxLines line feeds.
func Run(text string) (string, api.Errno) {
	if len(text) > maxText || strings.Count(text, "\n") > api.MaxLines {
		return "", api.ErrLong
	}
	n := New()
	var answers strings.Builder
	for _, line := range strings.Split(text, "\n") {
		// Only comments have an empty answer; what is behind the last line feed is one, if it is empty.
		if answer := n.Do(line); answer != "" {
			answers.WriteString(answer)
			answers.WriteByte('\n')
		}
	}
	return answers.String(), api.OK
}
