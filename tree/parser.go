package tree

import "workcell/api"

// fault: what is wrong with a source, and on which line.
type fault struct {
	line int
	code api.Errno
}

// parser of tokens: those that it has still to read, the line of the last one of all,
// in how many braces, parentheses and minuses it is, and the statements by their first words.
type parser struct {
	rest     []api.Token
	lastLine int
	deep     int
	grammar  map[string]rule
}

// parse tokens to a Program; whoever finds a fault, however deep, gives up by a panic, which ends here.
func parse(tokens []api.Token) (program api.Node, wrong fault) {
	defer func() {
		thrown := recover()
		if found, ok := thrown.(fault); ok {
			program, wrong = api.Node{}, found
		} else if thrown != nil {
			panic(thrown)
		}
	}()
	p := parser{rest: tokens, lastLine: 1, grammar: rules()}
	if len(tokens) > 0 {
		p.lastLine = tokens[len(tokens)-1].Line
	}
	program = api.Node{Kind: api.Program, Line: 1}
	for len(p.rest) > 0 {
		program.Kids = append(program.Kids, p.statement())
	}
	return program, fault{}
}

// giveUp at the next token, or at the last one, if there is no next.
func (p *parser) giveUp(code api.Errno) {
	line := p.lastLine
	if len(p.rest) > 0 {
		line = p.rest[0].Line
	}
	panic(fault{line: line, code: code})
}

// isNext: is the next token that word or sign?
func (p *parser) isNext(text string) bool {
	return len(p.rest) > 0 && p.rest[0].Kind != api.String && p.rest[0].Text == text
}

// take the next token, which must be of that kind, with such a text.
func (p *parser) take(kind int, isOne func(string) bool) api.Token {
	if len(p.rest) == 0 || p.rest[0].Kind != kind || !isOne(p.rest[0].Text) {
		p.giveUp(api.ErrForm)
	}
	return p.skip()
}

// expect that word or sign, and take it.
func (p *parser) expect(text string) api.Token {
	if !p.isNext(text) {
		p.giveUp(api.ErrForm)
	}
	return p.skip()
}

// open what is nested, with that sign; whoever opens it counts it down again behind its end.
func (p *parser) open(sign string) api.Token {
	if p.isNext(sign) && p.deep == api.MaxDepth {
		p.giveUp(api.ErrSize)
	}
	p.deep++
	return p.expect(sign)
}

// skip the next token, which there must be.
func (p *parser) skip() api.Token {
	next := p.rest[0]
	p.rest = p.rest[1:]
	return next
}

// leaf of a tree: a token alone.
func leaf(kind int, t api.Token) api.Node {
	return api.Node{Kind: kind, Text: t.Text, Line: t.Line}
}

// statement, as the rule of its first word tells.
func (p *parser) statement() api.Node {
	first := p.take(api.Word, func(text string) bool {
		_, ok := p.grammar[text]
		return ok
	})
	r := p.grammar[first.Text]
	n := api.Node{Kind: r.kind, Line: first.Line}
	for _, read := range r.parts {
		read(p, &n)
	}
	return n
}

func (p *parser) block() api.Node {
	brace := p.open("{")
	n := api.Node{Kind: api.Block, Line: brace.Line}
	for !p.isNext("}") {
		n.Kids = append(n.Kids, p.statement())
	}
	p.expect("}")
	p.deep--
	return n
}

func (p *parser) parameter() api.Node {
	n := leaf(api.Param, p.take(api.Word, isName))
	n.Kids = []api.Node{leaf(api.KindOf, p.take(api.Word, isKind))}
	return n
}

func (p *parser) well() api.Node {
	n := leaf(api.Well, p.take(api.Word, isName))
	if !p.isNext("(") {
		p.expect(".")
		n.Kids = []api.Node{leaf(api.SpotOf, p.take(api.Word, isSpot))}
		return n
	}
	p.expect("(")
	row := p.expression()
	p.expect(",")
	column := p.expression()
	p.expect(")")
	n.Kids = []api.Node{row, column}
	return n
}

func (p *parser) expression() api.Node { return p.chain(isSumSign, p.term) }

func (p *parser) term() api.Node { return p.chain(isProductSign, p.factor) }

// chain of what is read alike, with such signs between, taken from the left.
func (p *parser) chain(isSign func(string) bool, read func() api.Node) api.Node {
	n := read()
	for len(p.rest) > 0 && p.rest[0].Kind == api.Sign && isSign(p.rest[0].Text) {
		left := n
		n = leaf(api.Binary, p.skip())
		n.Kids = []api.Node{left, read()}
	}
	return n
}

func (p *parser) factor() api.Node {
	switch {
	case p.isNext("-"):
		n := api.Node{Kind: api.Minus, Line: p.open("-").Line}
		n.Kids = []api.Node{p.factor()}
		p.deep--
		return n
	case p.isNext("("):
		p.open("(")
		n := p.expression()
		p.expect(")")
		p.deep--
		return n
	case len(p.rest) > 0 && p.rest[0].Kind == api.Amount:
		return leaf(api.Value, p.skip())
	}
	return leaf(api.Name, p.take(api.Word, isName))
}
