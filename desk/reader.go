package desk

import (
	"strings"

	"wireward/api"
	"wireward/match"
	"wireward/number"
	"wireward/packet"
)

const numbersBelow = 100 // of a line's numbers

const matchWords = 4 // of a match

// linesOf is the lines of a script; behind its last byte 10 there is none, if
// nothing stands there.
func linesOf(text string) []string {
	lines := strings.Split(text, "\n")
	if last := len(lines) - 1; lines[last] == "" {
		return lines[:last]
	}
	return lines
}

// wordsOf is the words of a line. It is not strings.Fields, which parts words at
// other bytes than blanks, too.
func wordsOf(line string) []string {
	return strings.FieldsFunc(line, func(r rune) bool { return r == ' ' })
}

// reader takes a line's words one by one. That one isn't what was asked for is
// kept, and asked for once, at the end.
type reader struct {
	rest  []string
	wrong bool
}

// ended tells whether all words were what was asked for, and none is left.
func (r *reader) ended() bool { return !r.wrong && len(r.rest) == 0 }

// word is the next word, or, where there is none, the empty one.
func (r *reader) word() string {
	if len(r.rest) == 0 {
		r.wrong = true
		return ""
	}
	word := r.rest[0]
	r.rest = r.rest[1:]
	return word
}

// line is one word and all behind it, with one blank between.
func (r *reader) line() string {
	words := []string{r.word()}
	for len(r.rest) > 0 {
		words = append(words, r.word())
	}
	return strings.Join(words, " ")
}

func (r *reader) number() int {
	n, ok := number.Parse(r.word())
	r.expect(ok && n < numbersBelow)
	return n
}

func (r *reader) packet() api.Packet {
	p, e := packet.Parse(r.word())
	r.expect(e == api.OK)
	return p
}

func (r *reader) match() api.Match {
	words := make([]string, matchWords)
	for i := range words {
		words[i] = r.word()
	}
	m, e := match.Parse(strings.Join(words, " "))
	r.expect(e == api.OK)
	return m
}

func (r *reader) expect(ok bool) {
	if !ok {
		r.wrong = true
	}
}
