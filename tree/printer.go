package tree

import (
	"strings"

	"workcell/api"
	"workcell/nest"
)

// printer of a tree that Check takes: the text so far, and in how many blocks it is.
type printer struct {
	strings.Builder
	blocks int
}

// lines of statements.
func (p *printer) lines(statements []api.Node) {
	for _, n := range statements {
		p.indent()
		p.statement(n)
		p.WriteByte('\n')
	}
}

// indent a line.
func (p *printer) indent() { p.WriteString(strings.Repeat("  ", p.blocks)) }

// statement, from its first token to its last one.
func (p *printer) statement(n api.Node) {
	switch n.Kind {
	case api.Let:
		p.kids(n, "let "+n.Text+" = ")
	case api.Set:
		p.kids(n, "set "+n.Text+" = ")
	case api.Fill:
		p.kids(n, "fill ", ` with "`+n.Text+`" `)
	case api.Tip:
		p.WriteString("tip")
	case api.Drop:
		p.WriteString("drop")
	case api.Draw:
		p.kids(n, "draw ", " from ")
	case api.Put:
		p.kids(n, "put ", " into ")
	case api.Transfer:
		p.kids(n, "move ", " from ", " into ")
	case api.Warm:
		p.kids(n, "heat ")
	case api.Hold:
		p.kids(n, "hold ")
	case api.Shake:
		p.kids(n, "shake ", " for ")
	case api.Wait:
		p.kids(n, "wait ")
	case api.For:
		p.kids(n, "for "+n.Text+" from ", " to ", " ")
	case api.If:
		p.kids(n, "if ", " < ", " ", " else ")
	case api.Define:
		p.define(n)
	case api.Do:
		p.WriteString("do " + n.Text)
		p.list(n)
	}
}

// kids of a node, each behind the text that leads it in.
func (p *printer) kids(n api.Node, leads ...string) {
	for i := range n.Kids {
		p.WriteString(leads[i])
		p.kid(n, i)
	}
}

// list of all kids of a node, in parentheses.
func (p *printer) list(n api.Node) {
	p.WriteByte('(')
	for i := range n.Kids {
		if i > 0 {
			p.WriteString(", ")
		}
		p.kid(n, i)
	}
	p.WriteByte(')')
}

// define a function: its parameters are a list, its block is none of them.
func (p *printer) define(n api.Node) {
	last := len(n.Kids) - 1
	p.WriteString("def " + n.Text)
	p.list(api.Node{Kind: n.Kind, Kids: n.Kids[:last]})
	p.WriteByte(' ')
	p.kid(n, last)
}

// kid of a node, in parentheses, if it must be.
func (p *printer) kid(n api.Node, i int) {
	if !nest.IsWrapped(n, i) {
		p.part(n.Kids[i])
		return
	}
	p.WriteByte('(')
	p.part(n.Kids[i])
	p.WriteByte(')')
}

// part of a statement.
func (p *printer) part(n api.Node) {
	switch n.Kind {
	case api.Block:
		p.block(n)
	case api.Param:
		p.kids(n, n.Text+" ")
	case api.Well:
		p.well(n)
	case api.Minus:
		p.kids(n, "- ")
	case api.Binary:
		p.kids(n, "", " "+n.Text+" ")
	default: // a leaf
		p.WriteString(n.Text)
	}
}

// block, from brace to brace.
func (p *printer) block(n api.Node) {
	p.WriteString("{\n")
	p.blocks++
	p.lines(n.Kids)
	p.blocks--
	p.indent()
	p.WriteByte('}')
}

// well by its spot, or by its row and column.
func (p *printer) well(n api.Node) {
	p.WriteString(n.Text)
	if len(n.Kids) > 1 {
		p.list(n)
		return
	}
	p.kids(n, ".")
}
