package tree_test

import (
	"slices"
	"strings"
	"testing"

	"workcell/api"
	"workcell/lexer"
	"workcell/tree"
)

// chapter: its grammar, each form on a line. In quotes are words and signs; NAME, KIND, SPOT, STRING, AMOUNT are kinds of tokens.
const chapter = `
program =
program = program statement
block = '{' program '}'
statement = 'let' NAME '=' expr
statement = 'set' NAME '=' expr
statement = 'fill' well 'with' STRING expr
statement = 'tip'
statement = 'drop'
statement = 'draw' expr 'from' well
statement = 'put' expr 'into' well
statement = 'move' expr 'from' well 'into' well
statement = 'heat' expr
statement = 'hold' expr
statement = 'shake' expr 'for' expr
statement = 'wait' expr
statement = 'for' NAME 'from' expr 'to' expr block
statement = 'if' expr '<' expr block
statement = 'if' expr '<' expr block 'else' block
statement = 'def' NAME '(' ')' block
statement = 'def' NAME '(' params ')' block
statement = 'do' NAME '(' ')'
statement = 'do' NAME '(' exprs ')'
params = NAME KIND
params = params ',' NAME KIND
exprs = expr
exprs = exprs ',' expr
well = NAME '.' SPOT
well = NAME '(' expr ',' expr ')'
expr = term
expr = expr '+' term
expr = expr '-' term
term = factor
term = term '*' factor
term = term '/' factor
factor = AMOUNT
factor = NAME
factor = '-' factor
factor = '(' expr ')'
`

// grammar: the forms of each part.
func grammar() map[string][][]string {
	forms := map[string][][]string{}
	for _, line := range strings.Split(strings.TrimSpace(chapter), "\n") {
		words := strings.Fields(line)
		forms[words[0]] = append(forms[words[0]], words[2:])
	}
	return forms
}

// fits: may the token stand for a word of a form?
func fits(t api.Token, word string) bool {
	switch word {
	case "NAME":
		return t.Kind == api.Word && mayText(api.Name, t.Text)
	case "KIND":
		return t.Kind == api.Word && mayText(api.KindOf, t.Text)
	case "SPOT":
		return t.Kind == api.Word && mayText(api.SpotOf, t.Text)
	case "STRING":
		return t.Kind == api.String
	case "AMOUNT":
		return t.Kind == api.Amount
	}
	return (t.Kind == api.Word || t.Kind == api.Sign) && word == "'"+t.Text+"'"
}

// hope that a form of a part comes: how far it is read, and since which token.
type hope struct {
	part        string
	form, place int
	since       int
}

// outcome of tokens, by all forms at one time (Earley's way): the place of the first that may not stand there;
// the last one's, if more is needed; or -1.
func outcome(forms map[string][][]string, tokens []api.Token) int {
	sets := make([][]hope, len(tokens)+1)
	for i := range forms["program"] {
		sets[0] = append(sets[0], hope{"program", i, 0, 0})
	}
	for at := range sets {
		add := func(h hope) {
			if !slices.Contains(sets[at], h) {
				sets[at] = append(sets[at], h)
			}
		}
		for i := 0; i < len(sets[at]); i++ {
			h := sets[at][i]
			form := forms[h.part][h.form]
			if h.place == len(form) {
				for _, waiting := range sets[h.since] {
					if next := forms[waiting.part][waiting.form]; waiting.place < len(next) && next[waiting.place] == h.part {
						waiting.place++
						add(waiting)
					}
				}
				continue
			}
			for j := range forms[form[h.place]] {
				add(hope{form[h.place], j, 0, at})
			}
			// What may be empty is already there.
			if form[h.place] == "program" {
				h.place++
				add(h)
				h.place--
			}
			if at < len(tokens) && fits(tokens[at], form[h.place]) {
				h.place++
				sets[at+1] = append(sets[at+1], h)
			}
		}
		if len(sets[at]) == 0 {
			return at - 1
		}
	}
	for _, h := range sets[len(tokens)] {
		if h.part == "program" && h.since == 0 && h.place == len(forms["program"][h.form]) {
			return -1
		}
	}
	return len(tokens) - 1
}

// spoilt: tokens of a program, with something changed.
func (d *die) spoilt(tokens []api.Token) []api.Token {
	l := slices.Clone(tokens)
	some, _, _ := lexer.Lex(`let set fill with tip drop draw from put into move heat hold shake for wait to if else def do num vol len time turns
		a A1 x Q1 5 2ul "a" "tip" + - * / ( ) { } . , = < + - * / ( ) { } . , = <`)
	for range d.n(3) {
		at := d.n(len(l) + 1)
		switch {
		case d.n(8) == 0:
			l = l[:at]
		case at == len(l) || d.n(3) == 0:
			l = slices.Insert(l, at, pick(d, some...))
		case d.n(2) == 0:
			l = slices.Delete(l, at, at+1)
		default:
			l[at] = pick(d, some...)
		}
	}
	return l
}

// P8.1: ErrForm, by the grammar as it stands in the chapter: of programs, some of them spoilt, a token a line.
func TestParseByGrammar(t *testing.T) {
	forms := grammar()
	d := die(23)
	good, bad := 0, 0
	for range 3000 {
		text, _ := tree.Show(program(d.statements(1+d.n(2), 2)...))
		tokens, _, _ := lexer.Lex(text)
		if len(tokens) > 150 {
			continue
		}
		tokens = d.spoilt(tokens)
		for i := range tokens {
			tokens[i].Line = i + 1
		}
		source, e := lexer.Join(tokens)
		if e != api.OK {
			t.Fatal(tokens, e)
		}
		want := outcome(forms, tokens)
		n, line, e := tree.Parse(source)
		if want < 0 {
			good++
			if line != 0 || e != api.OK || n.Kind != api.Program {
				t.Errorf("Parse(%q): %d, %v", source, line, e)
			}
			continue
		}
		bad++
		if line != want+1 || e != api.ErrForm {
			t.Errorf("Parse(%q): %d, %v, not %d", source, line, e, want+1)
		}
	}
	if good < 500 || bad < 500 {
		t.Errorf("%d programs, %d others", good, bad)
	}
}
