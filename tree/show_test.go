package tree_test

import (
	"slices"
	"strings"
	"testing"

	"workcell/api"
	"workcell/lexer"
	"workcell/tree"
)

// shown: Show must answer this text, and Parse of it the tree again.
func shown(t *testing.T, n api.Node, want string) {
	t.Helper()
	if text, e := tree.Show(n); text != want || e != api.OK {
		t.Errorf("Show(%s): %q, %v, not %q", told(n), text, e, want)
	}
	if again, line, e := tree.Parse(want); !same(without(again), without(n)) || line != 0 || e != api.OK {
		t.Errorf("Parse(%q): %s, %d, %v, not %s", want, told(again), line, e, told(n))
	}
}

// P8.3: each kind of statement.
func TestShowStatements(t *testing.T) {
	one, x := value("1ul"), name("x")
	kind := func(text string) api.Node { return of(api.KindOf, text) }
	for _, c := range []struct {
		want string
		n    api.Node
	}{
		{"let x = 1ul\n", of(api.Let, "x", one)},
		{"set x = x\n", of(api.Set, "x", x)},
		{"fill p.A1 with \"a\" 1ul\n", of(api.Fill, "a", well("p", "A1"), one)},
		{"fill p(x, 1ul) with \"tip\" x\n", of(api.Fill, "tip", of(api.Well, "p", x, one), x)},
		{"tip\n", of(api.Tip, "")},
		{"drop\n", of(api.Drop, "")},
		{"draw 1ul from p.a1\n", of(api.Draw, "", one, well("p", "a1"))},
		{"put x into P(1ul, x)\n", of(api.Put, "", x, of(api.Well, "P", one, x))},
		{"move 1ul from p.A1 into q.P24\n", of(api.Transfer, "", one, well("p", "A1"), well("q", "P24"))},
		{"heat x\n", of(api.Warm, "", x)},
		{"hold x\n", of(api.Hold, "", x)},
		{"shake x for 1ul\n", of(api.Shake, "", x, one)},
		{"wait x\n", wait(x)},
		{"wait 12.50\u00b5l\n", wait(value("12.50\u00b5l"))},
		{"for i from x to 1ul {\n}\n", of(api.For, "i", x, one, block())},
		{"for i from x to 1ul {\n  tip\n  drop\n}\n", of(api.For, "i", x, one, block(of(api.Tip, ""), of(api.Drop, "")))},
		{"if x < 1ul {\n}\n", of(api.If, "", x, one, block())},
		{"if x < 1ul {\n  tip\n}\n", of(api.If, "", x, one, block(of(api.Tip, "")))},
		{"if x < 1ul {\n} else {\n}\n", of(api.If, "", x, one, block(), block())},
		{"if x < 1ul {\n  tip\n} else {\n  drop\n}\n", of(api.If, "", x, one, block(of(api.Tip, "")), block(of(api.Drop, "")))},
		{"def f() {\n}\n", of(api.Define, "f", block())},
		{"def f(x vol) {\n  tip\n}\n", of(api.Define, "f", of(api.Param, "x", kind("vol")), block(of(api.Tip, "")))},
		{"def f(x vol, y heat, z turns) {\n}\n", of(api.Define, "f", of(api.Param, "x", kind("vol")), of(api.Param, "y", kind("heat")), of(api.Param, "z", kind("turns")), block())},
		{"do f()\n", of(api.Do, "f")},
		{"do f(x)\n", of(api.Do, "f", x)},
		{"do f(x, 1ul, - x)\n", of(api.Do, "f", x, one, minus(x))},
	} {
		shown(t, program(c.n), c.want)
		shown(t, program(c.n, c.n), c.want+c.want)
	}
	shown(t, program(), "")
}

// P8.3: the chapter's example, and a source of many forms, as it is shown.
func TestShowLayout(t *testing.T) {
	n, _, _ := tree.Parse("put 1ul*2 into p.A1")
	shown(t, n, "put 1ul * 2 into p.A1\n")
	n, line, e := tree.Parse(`def f(x vol,y num){if y<1{do g()}else{if 2<y{move x*(y-1)from p . A1 into q ( y , -y )}tip}}
		for i from 1 to((2)){for j from 1 to 2{}}do f ( (1ul+2ul)*2,3 )`)
	if line != 0 || e != api.OK {
		t.Fatal(line, e)
	}
	shown(t, n, `def f(x vol, y num) {
  if y < 1 {
    do g()
  } else {
    if 2 < y {
      move x * (y - 1) from p.A1 into q(y, - y)
    }
    tip
  }
}
for i from 1 to 2 {
  for j from 1 to 2 {
  }
}
do f((1ul + 2ul) * 2, 3)
`)
}

// P8.3: which expressions stand in parentheses, and no others.
func TestShowParentheses(t *testing.T) {
	a, b, c, d := name("a"), name("b"), name("c"), name("d")
	for _, x := range []struct {
		want string
		n    api.Node
	}{
		{"- a", minus(a)}, {"- - a", minus(minus(a))}, {"- 1", minus(value("1"))},
		{"- (a + b)", minus(binary("+", a, b))}, {"- (a - b)", minus(binary("-", a, b))}, {"- (a * b)", minus(binary("*", a, b))}, {"- (a / b)", minus(binary("/", a, b))},
		{"- a + b", binary("+", minus(a), b)}, {"- a * b", binary("*", minus(a), b)}, {"a * - b", binary("*", a, minus(b))}, {"a - - b", binary("-", a, minus(b))}, {"a + - - b", binary("+", a, minus(minus(b)))},
		{"(a + b) * c", binary("*", binary("+", a, b), c)}, {"(a - b) / c", binary("/", binary("-", a, b), c)}, {"a * (b + c)", binary("*", a, binary("+", b, c))}, {"a / (b - c)", binary("/", a, binary("-", b, c))},
		{"a * b + c", binary("+", binary("*", a, b), c)}, {"a / b - c", binary("-", binary("/", a, b), c)}, {"a + b * c", binary("+", a, binary("*", b, c))}, {"a - b / c", binary("-", a, binary("/", b, c))},
		{"a + b + c", binary("+", binary("+", a, b), c)}, {"a - b + c", binary("+", binary("-", a, b), c)}, {"a + b - c", binary("-", binary("+", a, b), c)}, {"a - b - c", binary("-", binary("-", a, b), c)},
		{"a + (b + c)", binary("+", a, binary("+", b, c))}, {"a + (b - c)", binary("+", a, binary("-", b, c))}, {"a - (b + c)", binary("-", a, binary("+", b, c))}, {"a - (b - c)", binary("-", a, binary("-", b, c))},
		{"a * b * c", binary("*", binary("*", a, b), c)}, {"a / b * c", binary("*", binary("/", a, b), c)}, {"a * b / c", binary("/", binary("*", a, b), c)}, {"a / b / c", binary("/", binary("/", a, b), c)},
		{"a * (b * c)", binary("*", a, binary("*", b, c))}, {"a * (b / c)", binary("*", a, binary("/", b, c))}, {"a / (b * c)", binary("/", a, binary("*", b, c))}, {"a / (b / c)", binary("/", a, binary("/", b, c))},
		{"(a + b) * (c - d)", binary("*", binary("+", a, b), binary("-", c, d))}, {"a * b - c / d", binary("-", binary("*", a, b), binary("/", c, d))}, {"- (a + - (b * c)) / d", binary("/", minus(binary("+", a, minus(binary("*", b, c)))), d)},
		{"a - (b - (c - d))", binary("-", a, binary("-", b, binary("-", c, d)))}, {"((a + b) * c + d) / a", binary("/", binary("+", binary("*", binary("+", a, b), c), d), a)},
	} {
		shown(t, program(wait(x.n)), "wait "+x.want+"\n")
		// Nowhere else does an expression stand in parentheses of its own.
		shown(t, program(of(api.Do, "f", x.n, x.n)), "do f("+x.want+", "+x.want+")\n")
		shown(t, program(of(api.Draw, "", x.n, of(api.Well, "p", x.n, x.n))), "draw "+x.want+" from p("+x.want+", "+x.want+")\n")
		shown(t, program(of(api.If, "", x.n, x.n, block())), "if "+x.want+" < "+x.want+" {\n}\n")
		shown(t, program(of(api.Let, "x", x.n), of(api.Fill, "a", well("p", "A1"), x.n)), "let x = "+x.want+"\nfill p.A1 with \"a\" "+x.want+"\n")
	}
}

// laidOut: tokens of a text, put down again by the chapter's words.
func laidOut(tokens []api.Token) string {
	var text strings.Builder
	blocks := 0
	for i, token := range tokens {
		var ahead api.Token
		if i > 0 {
			ahead = tokens[i-1]
		}
		if token.Text == "}" {
			blocks--
		}
		isName := ahead.Kind == api.Word && !slices.Contains(strings.Fields(reserved), ahead.Text)
		switch {
		case i > 0 && token.Line != ahead.Line || i == 0:
			text.WriteString(strings.Repeat("  ", blocks))
		case token.Kind == api.Sign && strings.Contains(".),", token.Text):
		case ahead.Kind == api.Sign && strings.Contains(".(", ahead.Text):
		case token.Text == "(" && isName:
		default:
			text.WriteString(" ")
		}
		if token.Text == "{" {
			blocks++
		}
		if token.Kind == api.String {
			token.Text = `"` + token.Text + `"`
		}
		text.WriteString(token.Text)
		if i == len(tokens)-1 || tokens[i+1].Line != token.Line {
			text.WriteString("\n")
		}
	}
	return text.String()
}

// What comes of it: what is shown is parsed again: the same tree, but for lines; and shown as it was; laid out as the chapter says.
func TestShownIsParsed(t *testing.T) {
	d := die(11)
	long := 0
	for range 3000 {
		n := d.program()
		text, e := tree.Show(n)
		if e != api.OK {
			t.Fatalf("Show(%s): %v", told(n), e)
		}
		if len(text) > api.MaxSource {
			long++
			continue
		}
		again, line, e := tree.Parse(text)
		if !same(without(again), n) || line != 0 || e != api.OK {
			t.Fatalf("Parse(%q): %s, %d, %v, not %s", text, told(again), line, e, told(n))
		}
		if once, e := tree.Show(again); once != text || e != api.OK {
			t.Fatalf("Show: %q, %v, not %q", once, e, text)
		}
		tokens, _, _ := lexer.Lex(text)
		if laid := laidOut(tokens); laid != text {
			t.Fatalf("%q is laid out as %q", text, laid)
		}
		statements := 0
		walk(&again, func(n *api.Node) {
			if letter(*n) == "s" {
				statements++
			}
		})
		if begun := strings.Count(text, "\n") - strings.Count(text, "}"); begun != statements {
			t.Fatalf("%d statements on %d lines: %q", statements, begun, text)
		}
	}
	if long > 100 {
		t.Errorf("%d texts are too long", long)
	}
}

// P8.3: no pair of parentheses around an expression is too many: without it there is another tree.
func TestShownParenthesesAreNeeded(t *testing.T) {
	d := die(13)
	pairs := 0
	for range 6000 {
		n := program(wait(d.expression(4)))
		text, _ := tree.Show(n)
		var opened []int
		for i, c := range text {
			switch c {
			case '(':
				opened = append(opened, i)
			case ')':
				begin := opened[len(opened)-1]
				opened = opened[:len(opened)-1]
				less := text[:begin] + text[begin+1:i] + text[i+1:]
				if other, _, e := tree.Parse(less); e != api.OK || same(without(other), n) {
					t.Fatalf("%q is no other than %q (%v)", less, text, e)
				}
				pairs++
			}
		}
	}
	if pairs < 1000 {
		t.Errorf("only %d pairs", pairs)
	}
}

// P8.3: a text may be longer than a source may be; nothing is said against it.
func TestShowLong(t *testing.T) {
	fill := of(api.Fill, "q123456789abcdef", well("p", "A1"), value("1"))
	n := program(slices.Repeat([]api.Node{fill}, (api.MaxNodes-1)/4)...)
	text, e := tree.Show(n)
	if want := strings.Repeat("fill p.A1 with \"q123456789abcdef\" 1\n", (api.MaxNodes-1)/4); text != want || e != api.OK {
		t.Errorf("Show: %s, %v", brief(text), e)
	}
}

// What is parsed may be shown, and is then what it was; what is refused is refused alone.
func FuzzParse(f *testing.F) {
	d := die(17)
	for range 20 {
		text, _ := tree.Show(d.program())
		f.Add(text)
	}
	for _, source := range []string{"", "let 5", "wait ((1", "put 1ul*2 into p.A1", "def f(x vol,) {}", "$", strings.Repeat("(", 60)} {
		f.Add(source)
	}
	f.Fuzz(func(t *testing.T, source string) {
		n, line, e := tree.Parse(source)
		if e != api.OK {
			if !same(n, api.Node{}) || line < 0 || line > 1+strings.Count(source, "\n") || line == 0 && e != api.ErrSize {
				t.Fatalf("%s, %d, %v", told(n), line, e)
			}
			return
		}
		text, e := tree.Show(n)
		if line != 0 || e != api.OK || tree.Check(n) != api.OK {
			t.Fatalf("%d, Show: %q, %v, Check: %v", line, text, e, tree.Check(n))
		}
		if len(text) > api.MaxSource {
			return
		}
		again, line, e := tree.Parse(text)
		if !same(without(again), without(n)) || line != 0 || e != api.OK {
			t.Fatalf("%q becomes %s, %d, %v", text, told(again), line, e)
		}
	})
}
