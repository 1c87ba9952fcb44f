package tree_test

import (
	"fmt"
	"slices"
	"strings"
	"testing"

	"workcell/api"
	"workcell/lexer"
	"workcell/tree"
)

// told: a tree for an error.
func told(n api.Node) string { return brief(fmt.Sprint(n)) }

// parsed: Parse must answer this tree.
func parsed(t *testing.T, source string, want api.Node) {
	t.Helper()
	if n, line, e := tree.Parse(source); !same(n, want) || line != 0 || e != api.OK {
		t.Errorf("Parse(%s): %s, %d, %v, not %s", brief(source), told(n), line, e, told(want))
	}
}

// refused: Parse must answer this error, and its line, alone.
func refused(t *testing.T, source string, line int, want api.Errno) {
	t.Helper()
	if n, at, e := tree.Parse(source); !same(n, api.Node{}) || at != line || e != want {
		t.Errorf("Parse(%s): %s, %d, %v, not %d, %v", brief(source), told(n), at, e, line, want)
	}
}

// P8.1: the chapter's example.
func TestParseExample(t *testing.T) {
	parsed(t, "put 1ul*2 into p.A1", at(1, api.Program, "",
		at(1, api.Put, "",
			at(1, api.Binary, "*", at(1, api.Value, "1ul"), at(1, api.Value, "2")),
			at(1, api.Well, "p", at(1, api.SpotOf, "A1")))))
}

// P8.1: each kind of statement, a token a line: kinds, texts, kids, and lines.
func TestParseStatements(t *testing.T) {
	for _, c := range []struct {
		source string
		want   api.Node
	}{
		{"let x = 1", at(1, api.Let, "x", at(4, api.Value, "1"))},
		{"set x = y", at(1, api.Set, "x", at(4, api.Name, "y"))},
		{`fill p . A1 with "a" 90nl`, at(1, api.Fill, "a", at(2, api.Well, "p", at(4, api.SpotOf, "A1")), at(7, api.Value, "90nl"))},
		{`fill p ( 1 , n ) with "a" x`, at(1, api.Fill, "a", at(2, api.Well, "p", at(4, api.Value, "1"), at(6, api.Name, "n")), at(10, api.Name, "x"))},
		{"tip", at(1, api.Tip, "")},
		{"drop", at(1, api.Drop, "")},
		{"draw 1ul from p . b2", at(1, api.Draw, "", at(2, api.Value, "1ul"), at(4, api.Well, "p", at(6, api.SpotOf, "b2")))},
		{"put v into q ( r , 2 )", at(1, api.Put, "", at(2, api.Name, "v"), at(4, api.Well, "q", at(6, api.Name, "r"), at(8, api.Value, "2")))},
		{"move 5nl from p . A1 into q . A2", at(1, api.Transfer, "", at(2, api.Value, "5nl"), at(4, api.Well, "p", at(6, api.SpotOf, "A1")), at(8, api.Well, "q", at(10, api.SpotOf, "A2")))},
		{"heat 37C", at(1, api.Warm, "", at(2, api.Value, "37C"))},
		{"hold 1min", at(1, api.Hold, "", at(2, api.Value, "1min"))},
		{"shake 300rpm for 2s", at(1, api.Shake, "", at(2, api.Value, "300rpm"), at(4, api.Value, "2s"))},
		{"wait - 1s", at(1, api.Wait, "", at(2, api.Minus, "", at(3, api.Value, "1s")))},
		{"for i from 1 to n { }", at(1, api.For, "i", at(4, api.Value, "1"), at(6, api.Name, "n"), at(7, api.Block, ""))},
		{"for i from 1 to n { tip drop }", at(1, api.For, "i", at(4, api.Value, "1"), at(6, api.Name, "n"), at(7, api.Block, "", at(8, api.Tip, ""), at(9, api.Drop, "")))},
		{"if a < b { }", at(1, api.If, "", at(2, api.Name, "a"), at(4, api.Name, "b"), at(5, api.Block, ""))},
		{"if a < b { tip } else { drop }", at(1, api.If, "", at(2, api.Name, "a"), at(4, api.Name, "b"), at(5, api.Block, "", at(6, api.Tip, "")), at(9, api.Block, "", at(10, api.Drop, "")))},
		{"def f ( ) { }", at(1, api.Define, "f", at(5, api.Block, ""))},
		{"def f ( x vol ) { tip }", at(1, api.Define, "f", at(4, api.Param, "x", at(5, api.KindOf, "vol")), at(7, api.Block, "", at(8, api.Tip, "")))},
		{"def f ( a num , b len , c heat , d time , e turns ) { }", at(1, api.Define, "f",
			at(4, api.Param, "a", at(5, api.KindOf, "num")), at(7, api.Param, "b", at(8, api.KindOf, "len")), at(10, api.Param, "c", at(11, api.KindOf, "heat")),
			at(13, api.Param, "d", at(14, api.KindOf, "time")), at(16, api.Param, "e", at(17, api.KindOf, "turns")), at(19, api.Block, ""))},
		{"do f ( )", at(1, api.Do, "f")},
		{"do f ( 1 )", at(1, api.Do, "f", at(4, api.Value, "1"))},
		{"do f ( 1 , x , - y )", at(1, api.Do, "f", at(4, api.Value, "1"), at(6, api.Name, "x"), at(8, api.Minus, "", at(9, api.Name, "y")))},
	} {
		parsed(t, onLines(c.source), at(1, api.Program, "", c.want))
	}
}

// P8.1: a Program's line is 1, wherever it begins; statements need no line of their own.
func TestParseProgram(t *testing.T) {
	for _, source := range []string{"", " ", "\n\n", "# nothing\n", "\t#"} {
		parsed(t, source, at(1, api.Program, ""))
	}
	parsed(t, "\n\ntip", at(1, api.Program, "", at(3, api.Tip, "")))
	parsed(t, "tip drop tip#drop\ndrop\n", at(1, api.Program, "", at(1, api.Tip, ""), at(1, api.Drop, ""), at(1, api.Tip, ""), at(2, api.Drop, "")))
	parsed(t, "let n=2 set n=n+1", at(1, api.Program, "", at(1, api.Let, "n", at(1, api.Value, "2")),
		at(1, api.Set, "n", at(1, api.Binary, "+", at(1, api.Name, "n"), at(1, api.Value, "1")))))
	parsed(t, "if 1<2{if 3<4{}}else{}", at(1, api.Program, "", at(1, api.If, "", at(1, api.Value, "1"), at(1, api.Value, "2"),
		at(1, api.Block, "", at(1, api.If, "", at(1, api.Value, "3"), at(1, api.Value, "4"), at(1, api.Block, ""))), at(1, api.Block, ""))))
	parsed(t, "if 1<2{if 3<4{}else{}}", at(1, api.Program, "", at(1, api.If, "", at(1, api.Value, "1"), at(1, api.Value, "2"),
		at(1, api.Block, "", at(1, api.If, "", at(1, api.Value, "3"), at(1, api.Value, "4"), at(1, api.Block, ""), at(1, api.Block, ""))))))
}

// P8.1: ranks, from the left; parentheses leave no node; a Binary's line is that of its sign.
func TestParseExpressions(t *testing.T) {
	a, b, c, d := name("a"), name("b"), name("c"), name("d")
	for _, x := range []struct {
		text string
		want api.Node
	}{
		{"a", a}, {"(a)", a}, {"((((a))))", a}, {"5", value("5")}, {"(5ul)", value("5ul")},
		{"a+b", binary("+", a, b)}, {"a-b", binary("-", a, b)}, {"a*b", binary("*", a, b)}, {"a/b", binary("/", a, b)},
		{"a+b+c", binary("+", binary("+", a, b), c)}, {"a-b+c", binary("+", binary("-", a, b), c)}, {"a-b-c-d", binary("-", binary("-", binary("-", a, b), c), d)},
		{"a/b*c", binary("*", binary("/", a, b), c)}, {"a*b/c/d", binary("/", binary("/", binary("*", a, b), c), d)},
		{"a+b*c", binary("+", a, binary("*", b, c))}, {"a*b+c", binary("+", binary("*", a, b), c)}, {"a*b+c/d", binary("+", binary("*", a, b), binary("/", c, d))},
		{"a-b*c-d", binary("-", binary("-", a, binary("*", b, c)), d)},
		{"(a+b)*c", binary("*", binary("+", a, b), c)}, {"a*(b+c)", binary("*", a, binary("+", b, c))}, {"a-(b-c)", binary("-", a, binary("-", b, c))},
		{"(a-b)-c", binary("-", binary("-", a, b), c)}, {"(a*b)+c", binary("+", binary("*", a, b), c)}, {"a/(b/c)", binary("/", a, binary("/", b, c))},
		{"-a", minus(a)}, {"--a", minus(minus(a))}, {"-(-(a))", minus(minus(a))}, {"(-a)", minus(a)},
		{"-a+b", binary("+", minus(a), b)}, {"-a*b", binary("*", minus(a), b)}, {"a*-b", binary("*", a, minus(b))}, {"a--b", binary("-", a, minus(b))}, {"a- - -b", binary("-", a, minus(minus(b)))},
		{"-(a+b)", minus(binary("+", a, b))}, {"-(a*b)", minus(binary("*", a, b))}, {"-(a)*b", binary("*", minus(a), b)}, {"-a/-b", binary("/", minus(a), minus(b))},
		{"-5", minus(value("5"))}, {"1-1", binary("-", value("1"), value("1"))},
	} {
		n, line, e := tree.Parse("wait " + x.text)
		if !same(without(n), program(wait(x.want))) || line != 0 || e != api.OK {
			t.Errorf("Parse(wait %s): %s, %d, %v", x.text, told(n), line, e)
		}
	}
	parsed(t, onLines("wait ( a - b ) * - ( c + d )"), at(1, api.Program, "", at(1, api.Wait, "", at(7, api.Binary, "*",
		at(4, api.Binary, "-", at(3, api.Name, "a"), at(5, api.Name, "b")),
		at(8, api.Minus, "", at(11, api.Binary, "+", at(10, api.Name, "c"), at(12, api.Name, "d")))))))
	parsed(t, "wait (\n(\na\n)\n)", at(1, api.Program, "", at(1, api.Wait, "", at(3, api.Name, "a"))))
}

// Places of names: of what is let, set, gone through, defined, done, of parameters, seats, and in expressions.
var namePlaces = []string{
	"let @ = 1", "set @ = 1", "for @ from 1 to 2 { }", "def @ ( ) { }", "do @ ( )", "def f ( @ num ) { }", "def f ( a num , @ num ) { }",
	"draw 1 from @ . A1", "draw 1 from @ ( 1 , 2 )", "wait @", "wait 1 + @", "wait - @", "do f ( @ )", "put @ into p . A1", "if @ < 1 { }", "if 1 < @ { }",
}

// P8.1: which words are names; all others, and what is no word, may not stand where one must.
func TestParseNames(t *testing.T) {
	for _, place := range namePlaces {
		for _, text := range []string{"a", "Z", "x9", "Let", "LET", "tips", "ti", "volume", "vo", "A1", "e", "rpm", "ul", strings.Repeat("n", 5000)} {
			source := strings.Replace(place, "@", text, 1)
			n, line, e := tree.Parse(source)
			found := 0
			walk(&n, func(n *api.Node) {
				if n.Text == text {
					found++
				}
			})
			if found == 0 || line != 0 || e != api.OK {
				t.Errorf("Parse(%s): %s, %d, %v", brief(source), told(n), line, e)
			}
		}
		wrong := append(strings.Fields(reserved), `"a"`, "=", "<", ".", ",", "}", "{", "*", ")")
		for _, text := range wrong {
			if text == ")" && strings.Contains(place, "f ( @") {
				continue // where a list may be empty, it may end
			}
			source := onLines(strings.Replace(place, "@", text, 1))
			line := 1 + strings.Count(place[:strings.Index(place, "@")], " ")
			refused(t, source, line, api.ErrForm)
		}
	}
	for _, text := range strings.Fields("num vol len heat time turns") {
		source := "def f(a " + text + ") {}"
		if _, _, e := tree.Parse(source); e != api.OK {
			t.Errorf("Parse(%q): %v", source, e)
		}
	}
	for _, text := range append(strings.Fields("let tip number Vol a x1 rpm"), `"vol"`, "1", ",", ")", "(") {
		refused(t, "def f(a\n"+text+"\n) {}", 2, api.ErrForm)
	}
}

// P8.1: strings and amounts are no words, whatever is in them.
func TestParseKindsOfTokens(t *testing.T) {
	for _, source := range []string{
		`"tip"`, `"let" x = 1`, `draw 1 "from" p.A1`, `wait "x"`, `if 1 < 2 {} "else" {}`, `def f(a "vol") {}`, `fill p."a1" with "a" 1`,
		`fill p.A1 with a 1`, `fill p.A1 with 1 1`, `fill p.A1 with A1 1`, `fill p.A1 with tip 1`, `fill p.A1 "with" "a" 1`, `fill "p".A1 with "a" 1`,
		"5", "5 = 5", "+", "{}", "}", "(", ")", "p.A1", "x", "x = 1", "vol", "from", "else {}",
	} {
		refused(t, source, 1, api.ErrForm)
		refused(t, "tip\n\n"+source, 3, api.ErrForm)
	}
	for _, label := range strings.Fields("tip vol let a x1 from") {
		parsed(t, `fill p.A1 with "`+label+`" 1`, at(1, api.Program, "", at(1, api.Fill, label, at(1, api.Well, "p", at(1, api.SpotOf, "A1")), at(1, api.Value, "1"))))
	}
}

// P8.1: spots as P3.3 has them, kept as they are told; the line of one that is none.
func TestParseSpots(t *testing.T) {
	for row := range 16 {
		for column := 1; column <= 24; column++ {
			for _, first := range []rune{'A', 'a'} {
				spot := string(first+rune(row)) + itoa(column)
				parsed(t, "draw 1 from p."+spot, at(1, api.Program, "", at(1, api.Draw, "", at(1, api.Value, "1"), at(1, api.Well, "p", at(1, api.SpotOf, spot)))))
			}
		}
	}
	for _, spot := range []string{"A0", "A25", "Q1", "q1", "Z9", "A", "a", "AA1", "A01", "A1A", "A100", "P240", "b00", "let", "tip", "num", "x", "5", "1", `"a1"`, "(", "*", "A99999999999999999999"} {
		refused(t, "tip draw 1 from p\n.\n"+spot, 3, api.ErrForm)
		refused(t, "tip draw 1 from p.\n"+spot+"\nlet 5", 2, api.ErrForm)
	}
}

// itoa: a number below 100.
func itoa(n int) string {
	if n < 10 {
		return string(rune('0' + n))
	}
	return string(rune('0'+n/10)) + string(rune('0'+n%10))
}

// P8.1: what Lex says is ahead of all else.
func TestParseLex(t *testing.T) {
	for _, c := range []struct {
		source string
		line   int
		want   api.Errno
	}{
		{"$", 1, api.ErrForm},
		{"tip\n$", 2, api.ErrForm},
		{"let 5\n\n$", 3, api.ErrForm},
		{"let 5\n5q", 2, api.ErrForm},
		{"let 5\nwait 1000000001", 2, api.ErrRange},
		{"wait 0.5", 1, api.ErrRange},
		{"fill p.A1 with \"A\" 1", 1, api.ErrForm},
		{"wait " + strings.Repeat("(", 60) + "\n\n1.2345", 3, api.ErrForm},
		{strings.Repeat("tip\n", 4990) + strings.Repeat(" ", 41), 0, api.ErrSize},
		{strings.Repeat("$", api.MaxSource+1), 0, api.ErrSize},
	} {
		refused(t, c.source, c.line, c.want)
		if _, line, e := lexer.Lex(c.source); line != c.line || e != c.want {
			t.Errorf("Lex(%s): %d, %v", brief(c.source), line, e)
		}
	}
}

// P8.1: ErrForm: the line of the first token that may not stand where it stands.
func TestParseForm(t *testing.T) {
	for _, c := range []struct {
		source string
		line   int
	}{
		{"let x = 1 2", 5}, {"let x + 1", 3}, {"let x = =", 4}, {"let = x", 2}, {"let x = 1 + *", 6}, {"let x = ( 1 ,", 6}, {"let x = 1 )", 5}, {"let x = x ( 1 )", 5}, {"let x = ( )", 5},
		{"wait 1 < 2", 3}, {"wait wait 1", 2}, {"wait + 1", 2}, {"wait * 1", 2}, {"wait 1 1", 3}, {"wait a b", 3}, {"wait - + 1", 3}, {"wait 1 * / 2", 4},
		{"tip 1", 2}, {"tip ( )", 2}, {"drop tip {", 3}, {"heat with", 2}, {"hold }", 2}, {"shake 1 2", 3}, {"shake 1 , 2", 3}, {"shake 1 for for", 4},
		{"fill p with", 3}, {"fill p , A1", 3}, {"fill p . A1 a", 5}, {"fill p . A1 with a", 6}, {`fill p . A1 with "a" "b"`, 7}, {`fill p . A1 "a"`, 5}, {"fill p ( 1 ) with", 5}, {"fill p ( 1 , 2 , 3 )", 7}, {"fill p ( )", 4}, {"fill 1 . A1", 2},
		{"draw 1 into p . A1", 3}, {"draw from p . A1", 2}, {"draw p . A1 from", 3}, {"put 1 from p . A1", 3}, {"move 1 from p . A1 from q . A1", 7}, {"move 1 into p . A1", 3}, {"draw 1 from p . A1 . A1", 7}, {"draw 1 from ( p )", 4}, {"draw 1 from p from", 5},
		{"for i = 1", 3}, {"for i from 1 , 2", 5}, {"for i from 1 to 2 tip", 7}, {"for i from 1 to 2 { tip } }", 10}, {"for i from 1 to 2 { } else", 9}, {"for 1 from 1", 2},
		{"if 1 { }", 3}, {"if 1 = 2", 3}, {"if 1 < 2 < 3", 5}, {"if 1 < 2 tip", 5}, {"if 1 < 2 { else", 6}, {"if 1 < 2 { } else tip", 8}, {"if 1 < 2 { } else { } else { }", 10}, {"if 1 < 2 { } else if 1 < 2 { }", 8}, {"if ( 1 < 2 ) { }", 4},
		{"def f { }", 3}, {"def f ( x ) { }", 5}, {"def f ( x vol y )", 6}, {"def f ( x vol , )", 7}, {"def f ( , )", 4}, {"def f ( vol x )", 4}, {"def f ( x vol ) tip", 7}, {"def f ( 1 )", 4}, {"def ( )", 2}, {"def f ( ) { ) }", 6},
		{"do f 1", 3}, {"do f ( 1 2 )", 5}, {"do f ( 1 , )", 6}, {"do f ( , 1 )", 4}, {"do f ( ) )", 5}, {"do f ( ) { }", 5}, {"do f ( x vol )", 5}, {"do 1 ( )", 2}, {"do f . A1", 3},
		{"else", 1}, {"with", 1}, {"a", 1}, {"tip tip tip to", 4}, {"let x = 1 let y 2 let z = )", 7},
	} {
		refused(t, onLines(c.source), c.line, api.ErrForm)
	}
}

// P8.1: ErrForm: the last token's line, if more is needed, wherever it ends.
func TestParseMore(t *testing.T) {
	whole := `let x = 1 + ( 2 - 3 ) * - y
		fill p . A1 with "a" 90nl
		def f ( x vol , y num ) { draw x * y from p ( 1 , y ) put x into q . B2 }
		for i from 1 to 3 { if i < 2 { tip } else { drop } }
		move 1ul from p . A1 into q . A1 do f ( 1ul , 2 ) shake 1rpm for 2s heat 37C hold 1s wait 2s set x = 2`
	ends := 0
	words := strings.Fields(whole)
	for i := range words {
		source := strings.Join(words[:i+1], "\n")
		n, line, e := tree.Parse(source + " # and so\n\n")
		switch {
		case e == api.OK && line == 0 && n.Kind == api.Program:
			ends++
		case e != api.ErrForm || line != i+1 || !same(n, api.Node{}):
			t.Errorf("Parse(%s): %s, %d, %v", brief(source), told(n), line, e)
		}
	}
	// At the end of each outer statement, and ahead of two signs with which the first one goes on.
	if ends != 13 {
		t.Errorf("%d beginnings are programs", ends)
	}
	refused(t, "\n\nlet\n\n", 3, api.ErrForm)
	refused(t, "tip\nif 1 < 2 {\ntip\n# }\n", 3, api.ErrForm)
}

// P8.1: the first fault counts, however many there are.
func TestParseFirstFault(t *testing.T) {
	refused(t, "tip\nlet 5\nlet 6", 2, api.ErrForm)
	refused(t, "let x =\nlet 5", 2, api.ErrForm)
	refused(t, "draw 1 from p.Z1\n\nlet", 1, api.ErrForm)
}

// Forms of nesting: what begins one, what ends it; statements, or within an expression.
var nests = []struct {
	begin, end string
	statement  bool
}{
	{"if 1 < 2 {\n", "\n}\n", true},
	{"if 1 < 2 { } else {\n", "}", true},
	{"for i from 1 to 2 {\n", "}", true},
	{"def f(x num) {\n", "}", true},
	{"(\n", ")", false},
	{"-\n", "", false},
	{"1 - (\n", ") + 2", false},
	{"2 * (\n", ")", false},
}

// P8.1: ErrSize: braces, parentheses and minuses more than MaxDepth deep: the line of the first that is.
func TestParseDepth(t *testing.T) {
	for _, s := range nests {
		ahead, within := "wait ", "x"
		if s.statement {
			ahead, within = "", "tip"
		}
		for _, count := range []int{1, 2, 49, 50, 51, 52, 100, 300} {
			source := ahead + nested(count, s.begin, within, s.end)
			if count > api.MaxDepth {
				refused(t, source, api.MaxDepth+1, api.ErrSize)
				refused(t, "\n"+source+"\n"+source, api.MaxDepth+2, api.ErrSize)
				continue
			}
			n, line, e := tree.Parse(source + "\n" + source)
			if len(n.Kids) != 2 || line != 0 || e != api.OK {
				t.Errorf("Parse(%s): %s, %d, %v", brief(source), told(n), line, e)
			}
		}
	}
}

// P8.1: all that is nested counts together; what is behind its end does not count any more.
func TestParseDepthTogether(t *testing.T) {
	for braces := range api.MaxDepth + 2 {
		for _, minuses := range []int{0, 1, 7, api.MaxDepth - braces, api.MaxDepth - braces + 1} {
			parens := api.MaxDepth - braces - minuses
			if minuses < 0 || parens < 0 {
				continue
			}
			within := func(parens int) string {
				return nested(braces, "if 1 < 2 { ", "wait\n"+nested(minuses, "-", nested(parens, "(", "1", ")"), "")+"\n", " } ")
			}
			if _, line, e := tree.Parse(within(parens)); line != 0 || e != api.OK {
				t.Errorf("%d braces, %d minuses, %d parentheses: %d, %v", braces, minuses, parens, line, e)
			}
			refused(t, within(parens+1), 2, api.ErrSize)
		}
	}
	deep := nested(api.MaxDepth, "(", "1", ")")
	lower := nested(api.MaxDepth-1, "(", "1", ")")
	for _, source := range []string{
		"wait " + deep + " + " + deep + " * " + deep,
		"wait (" + lower + ") - (" + lower + " + " + lower + ")",
		"wait -" + lower + " - -" + lower,
		"if " + deep + " < " + deep + " { wait " + lower + " tip wait " + lower + " } else { wait " + lower + " } wait " + deep,
		// Parentheses of wells, functions and their calls are no expressions'.
		"draw " + deep + " from p(" + deep + ", " + deep + ") do f(" + deep + ", " + deep + ") def f(x num) { wait " + lower + " }",
	} {
		if _, line, e := tree.Parse(source); line != 0 || e != api.OK {
			t.Errorf("Parse(%s): %d, %v", brief(source), line, e)
		}
	}
	refused(t, "wait "+deep+"\nwait (\n"+deep+")", 3, api.ErrSize)
	refused(t, "if 1 < 2 { tip }\nelse {\nwait "+deep+" }", 3, api.ErrSize)
	refused(t, "draw 1 from p(1,\n-"+deep+")", 2, api.ErrSize)
	refused(t, "do f(1,\n-"+deep+")", 2, api.ErrSize)
}

// P8.1: of ErrForm and ErrSize that which is found first.
func TestParseDepthOrForm(t *testing.T) {
	deep := strings.Repeat("(", api.MaxDepth)
	refused(t, "let 5\nwait "+deep+"(", 1, api.ErrForm)
	refused(t, "wait "+deep+"\n)\n(", 2, api.ErrForm)
	refused(t, "wait "+deep+"\n(\n)", 2, api.ErrSize)
	refused(t, "wait "+deep+"\n", 1, api.ErrForm)
	refused(t, "wait "+strings.Repeat("(", api.MaxSource-5), 1, api.ErrSize)
	refused(t, "wait "+strings.Repeat("-", api.MaxSource-5), 1, api.ErrSize)
	refused(t, strings.Repeat("if 1<2{\n", api.MaxSource/8), api.MaxDepth+1, api.ErrSize)
	// A brace that may not stand there is not nested.
	refused(t, nested(api.MaxDepth, "if 1 < 2 { ", "\n{", " } "), 2, api.ErrForm)
	refused(t, nested(api.MaxDepth, "if 1 < 2 { ", "tip\n(", " } "), 2, api.ErrForm)
}

// P8.1: ErrSize, line 0, in the end: more than MaxNodes nodes.
func TestParseNodes(t *testing.T) {
	tips := func(count int) string { return strings.TrimSuffix(strings.Repeat("tip ", count), " ") }
	parsed(t, tips(api.MaxNodes-1), at(1, api.Program, "", slices.Repeat([]api.Node{at(1, api.Tip, "")}, api.MaxNodes-1)...))
	refused(t, tips(api.MaxNodes), 0, api.ErrSize)
	// A Program, a Wait, and so many Values with Binaries between: an even number, so one more makes it odd.
	sum := func(values int) string { return "wait 1" + strings.Repeat("+1", values-1) }
	for _, c := range []struct {
		source string
		want   int
	}{
		{"tip " + sum(2499), 5000}, {sum(2499), 4999}, {sum(2500), 5001}, {sum(9990), 0}, {"tip " + sum(2500), 0}, {"wait " + nested(30, "(", "1", ")") + strings.Repeat("*1", 2498), 4999},
	} {
		n, line, e := tree.Parse(c.source)
		if c.want == 0 || c.want > api.MaxNodes {
			refused(t, c.source, 0, api.ErrSize)
		} else if count, _ := tree.Size(n); count != c.want || line != 0 || e != api.OK {
			t.Errorf("Parse(%s): %d nodes, %d, %v", brief(c.source), count, line, e)
		}
	}
	refused(t, "wait 1"+strings.Repeat("+1", 5000)+"\n+", 2, api.ErrForm)
	refused(t, sum(5000)+"\nlet 5", 2, api.ErrForm)
	refused(t, sum(5000)+"\nwait "+strings.Repeat("-", 51)+"1", 2, api.ErrSize)
}

// What comes out is new memory: no list is shared with another one, nor with another answer's.
func TestParseSharesNothing(t *testing.T) {
	source := "def f(x vol, y num) { draw x from p(1, y) } if 1 < 2 { tip drop tip } else { wait 1 - 2 - -3 } do f(1ul, 2) tip tip"
	first, _, _ := tree.Parse(source)
	second, _, _ := tree.Parse(source)
	want := copied(second)
	mark := at(-7, -7, "marked")
	for _, n := range nodes(&first) {
		spare := n.Kids[len(n.Kids):cap(n.Kids)]
		for i := range spare {
			spare[i] = mark
		}
	}
	if !same(first, want) {
		t.Error("lists of one answer share memory")
	}
	for _, n := range nodes(&first) {
		*n = api.Node{Kids: n.Kids}
	}
	if !same(second, want) {
		t.Error("two answers share memory")
	}
}
