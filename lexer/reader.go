package lexer

import (
	"strings"
	"unicode/utf8"

	"workcell/api"
	"workcell/fluid"
	"workcell/unit"
)

// signs: each of these bytes is a token.
const signs = "+-*/(){}.,=<"

// Both signs for a millionth that unit.Read takes.
const (
	microSign = 0x00B5
	greekMu   = 0x03BC
)

// state of a reader: it reads on, and tells which state is next (nil: there is none).
type state func(*reader) state

// reader of a source: what it has still to read, the line on which that begins,
// the tokens that it has read, and what is wrong on that line.
type reader struct {
	rest   string
	line   int
	tokens []api.Token
	wrong  api.Errno
}

// between tokens: what begins next?
func between(r *reader) state {
	r.take(func(c rune) bool { return c == ' ' || c == '\t' || c == '\r' })
	if r.rest == "" {
		return nil
	}
	switch first, _ := utf8.DecodeRuneInString(r.rest); {
	case first == '\n':
		return lineEnd
	case first == '#':
		return remark
	case first == '"':
		return label
	case isLetter(first):
		return word
	case isDigit(first):
		return amount
	case strings.ContainsRune(signs, first):
		return sign
	}
	return r.refuse(api.ErrForm)
}

// lineEnd: at a line feed.
func lineEnd(r *reader) state {
	r.takeByte()
	r.line++
	return between
}

// remark: passed over, but not the line feed behind it.
func remark(r *reader) state {
	r.take(isInLine)
	return between
}

// word: at its first letter.
func word(r *reader) state {
	return r.tell(api.Word, r.take(func(c rune) bool { return isLetter(c) || isDigit(c) }))
}

// amount: at its first digit.
func amount(r *reader) state {
	text := r.take(func(c rune) bool {
		return isLetter(c) || isDigit(c) || c == '.' || c == microSign || c == greekMu
	})
	if _, e := unit.Read(text); e != api.OK {
		return r.refuse(e)
	}
	return r.tell(api.Amount, text)
}

// sign: at it.
func sign(r *reader) state {
	return r.tell(api.Sign, r.takeByte())
}

// label: at the quote ahead of it.
func label(r *reader) state {
	r.takeByte()
	text := r.take(func(c rune) bool { return c != '"' && isInLine(c) })
	behind, ended := strings.CutPrefix(r.rest, `"`)
	if !ended || fluid.Check([]api.Parcel{{Label: text}}) != api.OK {
		return r.refuse(api.ErrForm)
	}
	r.rest = behind
	return r.tell(api.String, text)
}

// take runes, as long as they are of the kind.
func (r *reader) take(isOne func(rune) bool) string {
	rest := strings.TrimLeftFunc(r.rest, isOne)
	taken := r.rest[:len(r.rest)-len(rest)]
	r.rest = rest
	return taken
}

// takeByte: the next one, which there must be.
func (r *reader) takeByte() string {
	taken := r.rest[:1]
	r.rest = r.rest[1:]
	return taken
}

// tell a token of this line, and go on.
func (r *reader) tell(kind int, text string) state {
	r.tokens = append(r.tokens, api.Token{Kind: kind, Text: text, Line: r.line})
	return between
}

// refuse the source: nothing more is read.
func (r *reader) refuse(e api.Errno) state {
	r.wrong = e
	return nil
}

func isLetter(c rune) bool { return 'a' <= c && c <= 'z' || 'A' <= c && c <= 'Z' }

func isDigit(c rune) bool { return '0' <= c && c <= '9' }

// isInLine: a line goes on with it.
func isInLine(c rune) bool { return c != '\n' }
