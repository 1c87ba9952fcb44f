package code

import (
	"strconv"
	"strings"
)

// reader of a text: what is left of it, and whether something else stood there than was asked for.
type reader struct {
	left   string
	failed bool
}

// isDone: was all there that was asked for, and is nothing left?
func (r *reader) isDone() bool { return !r.failed && r.left == "" }

// take a text that must stand there.
func (r *reader) take(text string) {
	left, ok := strings.CutPrefix(r.left, text)
	r.left = left
	r.failed = r.failed || !ok
}

// word: all up to a blank or the end.
func (r *reader) word() string {
	word, _, _ := strings.Cut(r.left, blank)
	r.left = r.left[len(word):]
	return word
}

// number of at most so many digits that must stand there.
func (r *reader) number(most int) int {
	unsigned := strings.TrimPrefix(r.left, "-")
	left := strings.TrimLeft(unsigned, "0123456789")
	text := r.left[:len(r.left)-len(left)]
	r.left = left
	n, ok := 0, len(unsigned)-len(left) <= most
	if ok {
		n, ok = plainNumber(text)
	}
	r.failed = r.failed || !ok
	return n
}

// plainNumber of a text. There is one way alone to write a number: the one in which it is told.
func plainNumber(text string) (int, bool) {
	n, err := strconv.Atoi(text)
	return n, err == nil && strconv.Itoa(n) == text
}
