package hall

import "strings"

const (
	maxNumber  = 1_000_000_000_000
	maxDigits  = 13
	maxLetters = 12
)

// noLine is the panic of a reader whose words are no line.
type noLine struct{}

// reader takes the words of a line, one after the other.
type reader struct {
	words []string
}

// split cuts a line at its blanks: where there are two of them, or one at an end, a word is empty.
func split(line string) *reader {
	var words []string
	start := 0
	for i, c := range line {
		if c == ' ' {
			words = append(words, line[start:i])
			start = i + 1
		}
	}
	return &reader{append(words, line[start:])}
}

func isComment(line string) bool {
	return line == "" || strings.HasPrefix(line, "#")
}

func isDigit(c rune) bool {
	return c >= '0' && c <= '9'
}

func isLetter(c rune) bool {
	return c >= 'a' && c <= 'z'
}

// word takes the next word.
func (r *reader) word() string {
	if len(r.words) == 0 {
		panic(noLine{})
	}
	word := r.words[0]
	r.words = r.words[1:]
	return word
}

// name takes the next word, which must be a name.
func (r *reader) name() string {
	word := r.word()
	if word == "" || len(word) > maxLetters {
		panic(noLine{})
	}
	for i, c := range word {
		if !isLetter(c) && (i == 0 || !isDigit(c)) {
			panic(noLine{})
		}
	}
	return word
}

// number takes the next word, which must be a number.
func (r *reader) number() int64 {
	word := r.word()
	if word == "" || len(word) > maxDigits || word[0] == '0' && word != "0" {
		panic(noLine{})
	}
	var n int64
	for _, c := range word {
		if !isDigit(c) {
			panic(noLine{})
		}
		n = 10*n + int64(c-'0')
	}
	if n > maxNumber {
		panic(noLine{})
	}
	return n
}

// numbers takes all words that are left, at least one, which must be numbers.
func (r *reader) numbers() []int64 {
	list := []int64{r.number()}
	for len(r.words) > 0 {
		list = append(list, r.number())
	}
	return list
}

// place takes a strip's name and a number.
func (r *reader) place() place {
	strip := r.name()
	number := r.number()
	return place{strip, number}
}

// end panics if a word is left.
func (r *reader) end() {
	if len(r.words) > 0 {
		panic(noLine{})
	}
}
