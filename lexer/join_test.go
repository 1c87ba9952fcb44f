package lexer_test

import (
	"math"
	"slices"
	"strings"
	"testing"

	"workcell/api"
	"workcell/lexer"
)

// unjoined: Join must answer this error alone.
func unjoined(t *testing.T, want api.Errno, l ...api.Token) {
	t.Helper()
	if text, e := lexer.Join(l); text != "" || e != want {
		t.Errorf("Join(%.300v): %.200q, %v, not %v", l, text, e, want)
	}
}

// P7.2: each token on its line, a blank between two of one line, strings in quotes.
func TestJoin(t *testing.T) {
	for _, c := range []struct {
		want string
		l    []api.Token
	}{
		{"", nil},
		{"", []api.Token{}},
		{"a", []api.Token{word("a", 1)}},
		{"\n\na", []api.Token{word("a", 3)}},
		{"a b", []api.Token{word("a", 1), word("b", 1)}},
		{"a\nb", []api.Token{word("a", 1), word("b", 2)}},
		{"\na b\n\n\nc\nd e", []api.Token{word("a", 2), word("b", 2), word("c", 5), word("d", 6), word("e", 6)}},
		{"draw 12.5ul from p . A1", []api.Token{word("draw", 1), amount("12.5ul", 1), word("from", 1), word("p", 1), sign(".", 1), word("A1", 1)}},
		{"fill p ( 1 , - 2 ) with \"a\" 9\u00b5l\n\"b2\" {\n}", []api.Token{
			word("fill", 1), word("p", 1), sign("(", 1), amount("1", 1), sign(",", 1), sign("-", 1), amount("2", 1), sign(")", 1), word("with", 1), quote("a", 1), amount("9\u00b5l", 1),
			quote("b2", 2), sign("{", 2), sign("}", 3)}},
		{strings.Repeat("\n", 9999) + "a 1", []api.Token{word("a", 10000), amount("1", 10000)}},
	} {
		if text, e := lexer.Join(c.l); text != c.want || e != api.OK {
			t.Errorf("Join(%v): %.200q, %v, not %.200q", c.l, text, e, c.want)
		}
		told(t, c.want, c.l...)
	}
}

// P7.2: ErrOrder: a line below the one ahead, below 1, or above 10000; whatever the tokens are.
func TestJoinOrder(t *testing.T) {
	for _, line := range []int{0, -1, math.MinInt, 10001, 20000, math.MaxInt} {
		unjoined(t, api.ErrOrder, word("a", line))
		unjoined(t, api.ErrOrder, word("a", 1), word("b", line))
		unjoined(t, api.ErrOrder, word("a", line), word("b", line))
		unjoined(t, api.ErrOrder, word("a", 1), word("b", line), word("c", 2))
	}
	unjoined(t, api.ErrOrder, word("a", 2), word("b", 1))
	unjoined(t, api.ErrOrder, word("a", 10000), word("b", 9999))
	unjoined(t, api.ErrOrder, word("a", 1), word("b", 3), word("c", 3), word("d", 2))
	unjoined(t, api.ErrOrder, api.Token{})
	// It is ahead of ErrForm, though further back.
	unjoined(t, api.ErrOrder, word("", 1), word("a", 0))
	unjoined(t, api.ErrOrder, word("$", 5), word("a", 4))
	unjoined(t, api.ErrOrder, word(strings.Repeat("a", api.MaxSource+1), 1), api.Token{Kind: 9, Line: 10001})
}

// P7.2: ErrForm: a token that Lex would not tell so, wherever it stands.
func TestJoinForm(t *testing.T) {
	for _, token := range []api.Token{
		{}, {Kind: 0, Text: "a"}, {Kind: 5, Text: "a"}, {Kind: -1, Text: "a"}, {Kind: math.MaxInt, Text: "1"}, {Kind: math.MinInt, Text: "+"},
		word("", 1), word("1", 1), word("1a", 1), word("+", 1), word(`"a"`, 1), word("a b", 1), word(" a", 1), word("a ", 1), word("a\n", 1), word("\na", 1),
		word("a#", 1), word("#", 1), word("#a", 1), word("a+", 1), word("a.b", 1), word("\u00e4", 1), word("a\u00b5", 1), word("a\xff", 1), word("$", 1), word(" ", 1), word("\n", 1),
		amount("", 1), amount("a", 1), amount("-1", 1), amount("5q", 1), amount("0.5", 1), amount("1 ", 1), amount("1 2", 1), amount("1.", 1), amount("+", 1), amount("1000000001", 1), amount("1#", 1),
		sign("", 1), sign("++", 1), sign("+ +", 1), sign("a", 1), sign("1", 1), sign(">", 1), sign("#", 1), sign("\"", 1), sign("+#", 1), sign(" +", 1), sign("\u2212", 1),
		quote("", 1), quote("A", 1), quote("1", 1), quote("a b", 1), quote(`a" "b`, 1), quote(`a"`, 1), quote(`"a"`, 1), quote("a\n", 1), quote("a#", 1), quote(`a" #`, 1), quote("a\xff", 1), quote(strings.Repeat("q", api.MaxLabel+1), 1),
	} {
		token.Line = 1
		unjoined(t, api.ErrForm, token)
		unjoined(t, api.ErrForm, word("a", 1), token)
		unjoined(t, api.ErrForm, token, amount("1", 1))
		token.Line = 3
		unjoined(t, api.ErrForm, word("a", 2), token, sign("+", 4))
	}
	// What Lex would make of the text is as long, or the same but for lines.
	unjoined(t, api.ErrForm, word("a b", 1), word("", 1))
	unjoined(t, api.ErrForm, word("a\nb", 1))
	unjoined(t, api.ErrForm, word("a\n", 1), word("b", 2))
	unjoined(t, api.ErrForm, word("a#", 1), word("b", 1))
	unjoined(t, api.ErrForm, quote(`a" "b`, 1), quote("c", 1))
	unjoined(t, api.ErrForm, sign("\"", 1), word("a", 1), sign("\"", 1))
}

// P7.2: ErrForm, too, of what becomes too long for Lex.
func TestJoinSize(t *testing.T) {
	long := func(n int) api.Token { return word(strings.Repeat("a", n), 1) }
	for _, l := range [][]api.Token{
		{long(api.MaxSource)},
		{long(api.MaxSource - 2), word("b", 1)},
		{long(api.MaxSource - 2), word("b", 2)},
		{word("b", 1), long(api.MaxSource - 2)},
		{long(api.MaxSource - 4), quote("b", 1)},
		append(slices.Repeat([]api.Token{sign("+", 1)}, api.MaxSource/2-1), word("aa", 1)),
		{word("b", 1), word(strings.Repeat("a", api.MaxSource-1-9999), 10000)},
	} {
		if text, e := lexer.Join(l); len(text) != api.MaxSource || e != api.OK {
			t.Errorf("Join of %d tokens: %d bytes, %v", len(l), len(text), e)
		}
		last := len(l) - 1
		more := slices.Clone(l)
		more[last].Text += "a"
		unjoined(t, api.ErrForm, more...)
		unjoined(t, api.ErrForm, append(slices.Clone(l), sign("+", l[last].Line))...)
	}
	unjoined(t, api.ErrForm, slices.Repeat([]api.Token{long(api.MaxSource)}, 500000)...)
	unjoined(t, api.ErrForm, slices.Repeat([]api.Token{sign("+", 1)}, 500000)...)
	unjoined(t, api.ErrForm, slices.Repeat([]api.Token{word("", 1)}, 500000)...)
}

// What comes of it: what is joined is told again, and joined as it was.
func TestJoinedIsTold(t *testing.T) {
	d := die(3)
	some := 0
	for range 20000 {
		l, _, _ := lexer.Lex(d.source(1 + d.n(30)))
		text, e := lexer.Join(l)
		if e != api.OK {
			t.Fatalf("Join(%v): %v", l, e)
		}
		told(t, text, l...)
		some += len(l)
	}
	if some < 20000 {
		t.Errorf("only %d tokens were told", some)
	}
}

// What is handed to Join stays as it is, its spare room, too.
func TestJoinLeavesList(t *testing.T) {
	l := []api.Token{quote("a", 1), amount("1", 2), word("b", 2), sign("=", 2)}
	own := slices.Clone(l)
	lexer.Join(l[:2])
	lexer.Join(l[:3:3])
	lexer.Join(l)
	if !slices.Equal(l, own) {
		t.Error("Join has changed its list")
	}
}

// P7.3: lines by their numbers, without the line feed.
func TestLine(t *testing.T) {
	long := strings.Repeat("a", 3*api.MaxSource)
	for _, c := range []struct {
		source string
		want   []string
	}{
		{"", []string{""}},
		{"\n", []string{""}},
		{"\n\n", []string{"", ""}},
		{"a", []string{"a"}},
		{"a\n", []string{"a"}},
		{"a\n\n", []string{"a", ""}},
		{"\na", []string{"", "a"}},
		{"a\nb", []string{"a", "b"}},
		{"a\nb\n", []string{"a", "b"}},
		{"a\n\nb\n\n\n", []string{"a", "", "b", "", ""}},
		{" a \r\nb\r\n", []string{" a \r", "b\r"}},
		{"a\rb", []string{"a\rb"}},
		{"$ # \"\n\xff\u2028\n\u00b5", []string{"$ # \"", "\xff\u2028", "\u00b5"}},
		{long + "\n" + long, []string{long, long}},
	} {
		for i, want := range c.want {
			if line, e := lexer.Line(c.source, i+1); line != want || e != api.OK {
				t.Errorf("Line(%.99q, %d): %.99q, %v, not %.99q", c.source, i+1, line, e, want)
			}
		}
		for _, n := range []int{math.MinInt, -1, 0, len(c.want) + 1, len(c.want) + 2, math.MaxInt} {
			if line, e := lexer.Line(c.source, n); line != "" || e != api.ErrRange {
				t.Errorf("Line(%.99q, %d): %.99q, %v", c.source, n, line, e)
			}
		}
	}
}

// P7.1 and P7.3: a token stands on the line that it tells.
func TestLineOfTokens(t *testing.T) {
	d := die(5)
	for range 2000 {
		source := d.source(1 + d.n(30))
		l, _, _ := lexer.Lex(source)
		for _, token := range l {
			if line, e := lexer.Line(source, token.Line); !strings.Contains(line, token.Text) || e != api.OK {
				t.Errorf("%v is told of %q, but its line is %q, %v", token, source, line, e)
			}
		}
	}
}
