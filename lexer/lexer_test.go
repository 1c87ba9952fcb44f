package lexer_test

import (
	"regexp"
	"slices"
	"strconv"
	"strings"
	"testing"

	"workcell/api"
	"workcell/lexer"
	"workcell/unit"
)

func word(text string, line int) api.Token { return api.Token{Kind: api.Word, Text: text, Line: line} }
func amount(text string, line int) api.Token {
	return api.Token{Kind: api.Amount, Text: text, Line: line}
}
func sign(text string, line int) api.Token { return api.Token{Kind: api.Sign, Text: text, Line: line} }
func quote(text string, line int) api.Token {
	return api.Token{Kind: api.String, Text: text, Line: line}
}

// told: Lex must answer these tokens.
func told(t *testing.T, source string, want ...api.Token) {
	t.Helper()
	if l, line, e := lexer.Lex(source); !slices.Equal(l, want) || line != 0 || e != api.OK {
		t.Errorf("Lex(%.200q): %.300v, %d, %v, not %.300v", source, l, line, e, want)
	}
}

// refused: Lex must answer this error, and its line, alone.
func refused(t *testing.T, source string, line int, want api.Errno) {
	t.Helper()
	if l, n, e := lexer.Lex(source); len(l) != 0 || n != line || e != want {
		t.Errorf("Lex(%.200q): %.300v, %d, %v, not %d, %v", source, l, n, e, line, want)
	}
}

// P7.1: the chapter's example, token by token, and a source with all kinds of them on several lines.
func TestLex(t *testing.T) {
	told(t, "draw 12.5ul from p.A1 # first",
		word("draw", 1), amount("12.5ul", 1), word("from", 1), word("p", 1), sign(".", 1), word("A1", 1))
	told(t, "fill p.A1 with \"a\" 90nl\n\n# over\nif 1<x{\n\twait -2s*(n+1)/3\r\n}",
		word("fill", 1), word("p", 1), sign(".", 1), word("A1", 1), word("with", 1), quote("a", 1), amount("90nl", 1),
		word("if", 4), amount("1", 4), sign("<", 4), word("x", 4), sign("{", 4),
		word("wait", 5), sign("-", 5), amount("2s", 5), sign("*", 5), sign("(", 5), word("n", 5), sign("+", 5), amount("1", 5), sign(")", 5), sign("/", 5), amount("3", 5),
		sign("}", 6))
}

// P7.1: what parts tokens, and on which line they are.
func TestLexBlanks(t *testing.T) {
	for _, nothing := range []string{"", " ", "\t", "\r", "\n", "\r\n", " \t\r\n \t\r\n"} {
		told(t, nothing)
		told(t, strings.Repeat(nothing, api.MaxSource/8))
		told(t, nothing+"#")
		told(t, "#\n"+nothing)
	}
	for _, blank := range []string{" ", "\t", "\r", " \t\r ", "\r\r"} {
		told(t, blank+"a"+blank+"b"+blank, word("a", 1), word("b", 1))
		told(t, "1"+blank+"2", amount("1", 1), amount("2", 1))
	}
	for _, end := range []string{"\n", "\r\n", " \t\n\r", "#\n", "# \"\r\n", "#a#b\n\t"} {
		told(t, end+"a"+end+"b"+end, word("a", 2), word("b", 3))
		told(t, "1"+end+"2", amount("1", 1), amount("2", 2))
	}
	told(t, "\n\n\na\n\n\nb c", word("a", 4), word("b", 7), word("c", 7))
	told(t, strings.Repeat("\n", api.MaxSource))
	told(t, strings.Repeat("\n", api.MaxSource-1)+"a", word("a", api.MaxSource))
	for _, blank := range []string{"\v", "\f", "\x00", "\u0085", "\u00a0", "\u2028", "\u3000", "\ufeff", "\x85", "\xa0"} {
		refused(t, "a"+blank+"b", 1, api.ErrForm)
		refused(t, blank, 1, api.ErrForm)
	}
}

// P7.1: what is passed over behind `#`, up to the line's end, and no further.
func TestLexRemarks(t *testing.T) {
	told(t, "a#b c\nd", word("a", 1), word("d", 2))
	told(t, "1# $ \" \xff \u00e4 \v 5q ## \r still\n2", amount("1", 1), amount("2", 2))
	told(t, "\"a\"#\"\n\"b\"", quote("a", 1), quote("b", 2))
	told(t, "+#+", sign("+", 1))
	told(t, "#\n#\n#a\na", word("a", 4))
	refused(t, "#\n$#", 2, api.ErrForm)
	refused(t, "\"a#b\"", 1, api.ErrForm)
}

// P7.1: a letter, then letters and digits.
func TestLexWords(t *testing.T) {
	const letters = "abcdefghijklmnopqrstuvwxyzABCDEFGHIJKLMNOPQRSTUVWXYZ"
	for _, text := range []string{"a", "z", "A", "Z", "a1", "A1", "x0y9Z", letters, letters + "0123456789", "e5", strings.Repeat("w", api.MaxSource)} {
		told(t, text, word(text, 1))
	}
	told(t, "a.b", word("a", 1), sign(".", 1), word("b", 1))
	told(t, "a\"b\"c", word("a", 1), quote("b", 1), word("c", 1))
	for _, text := range []string{"\u00e4", "a\u00e4", "\u0430", "a_b", "_", "a\u00b5", "\u00b5l", "\u03bc", "\u00b5", "\u212a", "a\u0661", "\uff41", "a\xff", "\xc3", "\ufffd", "a\u0301"} {
		refused(t, text, 1, api.ErrForm)
	}
}

// P7.1: digits, letters, dots and both signs for a millionth, as many as there are.
func TestLexAmounts(t *testing.T) {
	for _, text := range []string{
		"0", "7", "007", "2.0", "1000000000", "3nl", "3ul", "3\u00b5l", "3\u03bcl", "3ml", "3um", "3\u00b5m", "3\u03bcm", "3mm", "3cm",
		"3mK", "3K", "3C", "3ms", "3s", "3min", "3h", "3rpm", "12.5ul", "12.5\u00b5l", "0.125s", "999726.85C", strings.Repeat("0", api.MaxSource-2) + "nl",
	} {
		told(t, text, amount(text, 1))
	}
	told(t, "1+2-3", amount("1", 1), sign("+", 1), amount("2", 1), sign("-", 1), amount("3", 1))
	told(t, "-5ul", sign("-", 1), amount("5ul", 1))
	told(t, ".5", sign(".", 1), amount("5", 1))
	told(t, "p.5", word("p", 1), sign(".", 1), amount("5", 1))
	told(t, "5\"a\"6", amount("5", 1), quote("a", 1), amount("6", 1))
	told(t, "1,5ul", amount("1", 1), sign(",", 1), amount("5ul", 1))
	for _, text := range []string{
		"5.", "5.ul", "5..1", "5.1.1", "1.2345", "5q", "5l", "5uL", "5NL", "5ull", "5ulul", "5ul5", "1e3", "0x10", "2A", "5.A1", "5u.l",
		"5\u00b5", "5\u00b5s", "5\u00b5\u00b5l", "5ul\u03bc", "5nl.", "99999999999999999999x", strings.Repeat("1.", api.MaxSource/2),
		// Here the amount ends ahead of what begins no token.
		"5_", "1_000", "5\u00e4", "5\u212a", "5\xb5l", "5\xc2", "5\xce\xbc\xff", "5%", "5\u0661",
	} {
		refused(t, text, 1, api.ErrForm)
	}
}

// P7.1: ErrRange, as unit.Read says of an amount.
func TestLexRange(t *testing.T) {
	for _, text := range []string{
		"0.5", "0.5nl", "7.999ms", "0.1rpm", "2.25\u00b5m", "1000000001", "1000.001ml", "278h", "1000000C", "9223372036854775808",
		"18446744073709551617nl", strings.Repeat("9", api.MaxSource),
	} {
		refused(t, text, 1, api.ErrRange)
	}
	refused(t, "a\nb 1\n  0.5 ", 3, api.ErrRange)
	told(t, "1000000000\n273C", amount("1000000000", 1), amount("273C", 2))
}

// P7.1: one of twelve signs is a token, whatever stands beside it.
func TestLexSigns(t *testing.T) {
	const signs = "+-*/(){}.,=<"
	var all []api.Token
	for i := range len(signs) {
		one := signs[i : i+1]
		told(t, one, sign(one, 1))
		told(t, one+one, sign(one, 1), sign(one, 1))
		told(t, "a"+one+"b", word("a", 1), sign(one, 1), word("b", 1))
		all = append(all, sign(one, 1))
	}
	told(t, signs, all...)
}

// P7.1: every byte, alone: a token, or nothing, or ErrForm.
func TestLexBytes(t *testing.T) {
	for b := range 256 {
		one := string([]byte{byte(b)})
		switch {
		case strings.Contains(" \t\r\n#", one):
			told(t, one)
		case b >= '0' && b <= '9':
			told(t, one, amount(one, 1))
		case b >= 'a' && b <= 'z' || b >= 'A' && b <= 'Z':
			told(t, one, word(one, 1))
		case strings.Contains("+-*/(){}.,=<", one):
			told(t, one, sign(one, 1))
		default:
			refused(t, one, 1, api.ErrForm)
			refused(t, "a\n\n1 "+one+" $", 3, api.ErrForm)
		}
	}
}

// P7.1: a label between two quotes, on one line.
func TestLexStrings(t *testing.T) {
	for _, text := range []string{"a", "z", "a0", "b9z", "z123456789abcdef", strings.Repeat("q", api.MaxLabel)} {
		told(t, `"`+text+`"`, quote(text, 1))
	}
	told(t, `"a""b"`, quote("a", 1), quote("b", 1))
	told(t, "\"a\"\n\"b\"", quote("a", 1), quote("b", 2))
	for _, text := range []string{
		`""`, `"A"`, `"1"`, `"1a"`, `"a b"`, `" a"`, `"a "`, `"a_b"`, `"a.b"`, `"aB"`, `"\"`, "\"\u00e4\"", "\"a\xff\"", "\"a\x00\"", "\"a\t\"", "\"a\r\"",
		`"` + strings.Repeat("q", api.MaxLabel+1) + `"`,
		`"`, `"a`, `"""`, `"a"b"`, `"a" "`, `a"`, `'a'`, "\"a\n", "\"a\n\"", "\"\n\"", "\"a\n\"b\"", "\"a#\"", `"a#`,
	} {
		refused(t, text, 1, api.ErrForm)
		refused(t, "b\n"+text+"\n$", 2, api.ErrForm)
	}
	refused(t, "\"a\"\n\n b \"c\nd\"", 3, api.ErrForm)
}

// P7.1: of several faults the one that comes first in the source.
func TestLexFirstFault(t *testing.T) {
	refused(t, "$\n0.5", 1, api.ErrForm)
	refused(t, "0.5\n$", 1, api.ErrRange)
	refused(t, "a\n\n0.5 $", 3, api.ErrRange)
	refused(t, "a\n$ 0.5", 2, api.ErrForm)
	refused(t, "a\n\"A\"\n5q\n0.5", 2, api.ErrForm)
	refused(t, "1nl 0.5nl\n5q", 1, api.ErrRange)
	refused(t, "0.5\"", 1, api.ErrRange)
}

// P7.1: ErrSize, ahead of all, with line 0.
func TestLexSize(t *testing.T) {
	for _, text := range []string{"a", " ", "\n", "#", "$", "\"", "0.5 ", "5q", "\u00b5", "\xff"} {
		many := strings.Repeat(text, api.MaxSource)
		refused(t, many[:api.MaxSource]+"a", 0, api.ErrSize)
		refused(t, many+many, 0, api.ErrSize)
	}
	most := strings.Repeat("a ", api.MaxSource/2)
	if l, line, e := lexer.Lex(most); len(l) != api.MaxSource/2 || line != 0 || e != api.OK {
		t.Errorf("a source of MaxSource bytes: %d tokens, %d, %v", len(l), line, e)
	}
	refused(t, most[1:]+"$", 1, api.ErrForm)
}

// piece of a source at its beginning: blanks or a remark; a line feed; a word; an amount; a sign; a string.
var piece = regexp.MustCompile("^(?:([ \t\r]+|#[^\n]*)|(\n)|([a-zA-Z][a-zA-Z0-9]*)|([0-9][0-9a-zA-Z.\u00b5\u03bc]*)|([-+*/(){}.,=<])|\"([a-z][a-z0-9]{0,15})\")")

// lexed: tokens of a source by another way.
func lexed(source string) (l []api.Token, line int, e api.Errno) {
	if len(source) > api.MaxSource {
		return nil, 0, api.ErrSize
	}
	for line = 1; source != ""; {
		m := piece.FindStringSubmatch(source)
		if m == nil {
			return nil, line, api.ErrForm
		}
		source = source[len(m[0]):]
		if m[2] != "" {
			line++
		}
		for i, kind := range []int{api.Word, api.Amount, api.Sign, api.String} {
			if text := m[3+i]; text != "" {
				l = append(l, api.Token{Kind: kind, Text: text, Line: line})
			}
		}
		if m[4] != "" {
			if _, e := unit.Read(m[4]); e != api.OK {
				return nil, line, e
			}
		}
	}
	return l, 0, api.OK
}

// agree: Lex and the other way tell the same of a source; and what is told is as tokens are.
func agree(t *testing.T, source string) []api.Token {
	t.Helper()
	l, line, e := lexer.Lex(source)
	want, n, f := lexed(source)
	if !slices.Equal(l, want) || line != n || e != f {
		t.Fatalf("Lex(%q): %v, %d, %v, not %v, %d, %v", source, l, line, e, want, n, f)
	}
	for _, token := range l {
		if token.Text == "" || token.Line < 1 || token.Line > strings.Count(source, "\n")+1 {
			t.Fatalf("Lex(%q): %v", source, token)
		}
	}
	return l
}

// die: numbers that look drawn, the same each time.
type die uint64

func (d *die) n(most int) int {
	*d = *d*6364136223846793005 + 1442695040888963407
	return int(uint64(*d>>33) % uint64(most))
}

// source of so many parts, most of them such as may be.
func (d *die) source(parts int) string {
	good := []string{"a", "b1", "Z", "move", "0", "25nl", "1.5ul", "3\u00b5l", "3\u03bcm", "+", "-", "*", "/", "(", ")", "{", "}", ".", ",", "=", "<", "\"a\"", "\"b2\"", " ", " ", "\t", "\r", "\n", "\n", "#", "# x\n"}
	bad := []string{"$", "\"", "0.5", "5q", "\u00b5", "\xff", "\"A\"", "\u00e4", "\v", "1.", "_"}
	var text strings.Builder
	for range parts {
		list := good
		if d.n(40) == 0 {
			list = bad
		}
		text.WriteString(list[d.n(len(list))])
	}
	return text.String()
}

// P7.1: all texts of two bytes, and many sources, held against a second way to tell tokens.
func TestLexAgrees(t *testing.T) {
	for b := range 256 * 256 {
		agree(t, string([]byte{byte(b >> 8), byte(b)}))
	}
	d := die(7)
	for range 20000 {
		agree(t, d.source(1+d.n(30)))
	}
}

// What Lex answers is its caller's own.
func TestLexNewMemory(t *testing.T) {
	const source = "a 1\n\"b\" +"
	first, _, _ := lexer.Lex(source)
	second, _, _ := lexer.Lex(source)
	for i := range first[:cap(first)] {
		first[:cap(first)][i] = api.Token{Line: -7}
	}
	if slices.Contains(second[:cap(second)], api.Token{Line: -7}) {
		t.Error("two answers share memory")
	}
	told(t, source, word("a", 1), amount("1", 1), quote("b", 2), sign("+", 2))
}

// P7.1 and P7.2: no text makes Lex panic; what it tells is joined and told again.
func FuzzLex(f *testing.F) {
	for _, source := range []string{"", "draw 12.5ul from p.A1 # first", "\"a\"\n\n{-3\u00b5l}", "0.5", "5q", "\"", "\xff", "#\r\n a"} {
		f.Add(source)
	}
	d := die(11)
	for i := range 20 {
		f.Add(d.source(i) + strconv.Itoa(i))
	}
	f.Fuzz(func(t *testing.T, source string) {
		l := agree(t, source)
		text, e := lexer.Join(l)
		if e == api.OK {
			told(t, text, l...)
		} else if text != "" || len(source) < 5000 {
			t.Errorf("Join(%v): %q, %v", l, text, e)
		}
	})
}
