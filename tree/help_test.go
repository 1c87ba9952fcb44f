package tree_test

import (
	"slices"
	"strconv"
	"strings"

	"workcell/api"
)

// reserved: all words that are no names.
const reserved = "let set fill with tip drop draw from put into move heat hold shake for wait to if else def do num vol len time turns"

// die: numbers that look drawn, the same each time.
type die uint64

func (d *die) n(most int) int {
	*d = *d*6364136223846793005 + 1442695040888963407
	return int(uint64(*d>>33) % uint64(most))
}

// pick one of some.
func pick[T any](d *die, some ...T) T { return some[d.n(len(some))] }

// at: a node on a line.
func at(line, kind int, text string, kids ...api.Node) api.Node {
	return api.Node{Kind: kind, Text: text, Line: line, Kids: kids}
}

// of: a node without a line.
func of(kind int, text string, kids ...api.Node) api.Node { return at(0, kind, text, kids...) }

// Short forms of nodes without lines.
func program(kids ...api.Node) api.Node { return of(api.Program, "", kids...) }
func block(kids ...api.Node) api.Node   { return of(api.Block, "", kids...) }
func wait(n api.Node) api.Node          { return of(api.Wait, "", n) }
func value(text string) api.Node        { return of(api.Value, text) }
func name(text string) api.Node         { return of(api.Name, text) }
func minus(n api.Node) api.Node         { return of(api.Minus, "", n) }
func binary(sign string, a, b api.Node) api.Node {
	return of(api.Binary, sign, a, b)
}
func well(seat, spot string) api.Node { return of(api.Well, seat, of(api.SpotOf, spot)) }

// copied: a tree in memory of its own.
func copied(n api.Node) api.Node {
	n.Kids = slices.Clone(n.Kids)
	for i := range n.Kids {
		n.Kids[i] = copied(n.Kids[i])
	}
	return n
}

// without lines: a copy of a tree.
func without(n api.Node) api.Node {
	n = copied(n)
	walk(&n, func(n *api.Node) { n.Line = 0 })
	return n
}

// walk over all nodes of a tree, each ahead of its kids.
func walk(n *api.Node, see func(*api.Node)) {
	see(n)
	for i := range n.Kids {
		walk(&n.Kids[i], see)
	}
}

// nodes of a tree, each by its address.
func nodes(n *api.Node) []*api.Node {
	var all []*api.Node
	walk(n, func(n *api.Node) { all = append(all, n) })
	return all
}

// same: are two trees alike, lines too? An empty list may be nil or not.
func same(a, b api.Node) bool {
	return a.Kind == b.Kind && a.Text == b.Text && a.Line == b.Line && slices.EqualFunc(a.Kids, b.Kids, same)
}

// program: one that may be, drawn; few of them are long.
func (d *die) program() api.Node { return program(d.statements(d.n(6), 3)...) }

// statements, so many, with blocks in them so deep.
func (d *die) statements(count, deep int) []api.Node {
	var l []api.Node
	for range count {
		l = append(l, d.statement(deep))
	}
	return l
}

// statement of any kind.
func (d *die) statement(deep int) api.Node {
	kind := api.Let + d.n(api.Do-api.Let+1)
	if deep == 0 && (kind == api.For || kind == api.If || kind == api.Define) {
		kind = api.Tip
	}
	n := of(kind, "")
	add := func(kids ...api.Node) { n.Kids = append(n.Kids, kids...) }
	switch kind {
	case api.Let, api.Set:
		n.Text = d.name()
		add(d.expression(3))
	case api.Fill:
		n.Text = pick(d, "a", "b2", "tip", "heat", "q123456789abcdef")
		add(d.well(), d.expression(3))
	case api.Draw, api.Put:
		add(d.expression(3), d.well())
	case api.Transfer:
		add(d.expression(3), d.well(), d.well())
	case api.Warm, api.Hold, api.Wait:
		add(d.expression(4))
	case api.Shake:
		add(d.expression(3), d.expression(3))
	case api.For:
		n.Text = d.name()
		add(d.expression(2), d.expression(2), block(d.statements(d.n(4), deep-1)...))
	case api.If:
		add(d.expression(2), d.expression(2))
		for range 1 + d.n(2) {
			add(block(d.statements(d.n(4), deep-1)...))
		}
	case api.Define:
		n.Text = d.name()
		for range d.n(4) {
			add(of(api.Param, d.name(), of(api.KindOf, pick(d, "num", "vol", "len", "heat", "time", "turns"))))
		}
		add(block(d.statements(d.n(4), deep-1)...))
	case api.Do:
		n.Text = d.name()
		for range d.n(4) {
			add(d.expression(2))
		}
	}
	return n
}

// name, or what looks nearly like a word that is none.
func (d *die) name() string {
	return pick(d, "a", "b", "x1", "Let", "TIP", "tips", "volume", "numb", "fort", "e", "A1", "P24", "zZ9", "elsewhere")
}

// well by a spot, or by row and column.
func (d *die) well() api.Node {
	if d.n(2) == 0 {
		return of(api.Well, d.name(), d.expression(2), d.expression(2))
	}
	return well(d.name(), pick(d, "A1", "a1", "H12", "P24", "p24", "c9"))
}

// expression, at most so deep.
func (d *die) expression(deep int) api.Node {
	switch d.n(6) {
	case 0:
		return name(d.name())
	case 1, 2:
		return value(pick(d, "0", "1", "007", "12.5ul", "3\u00b5l", "3\u03bcm", "37C", "1.500s", "300rpm"))
	case 3:
		if deep > 0 {
			return minus(d.expression(deep - 1))
		}
	}
	if deep == 0 {
		return value("1")
	}
	return binary(pick(d, "+", "-", "*", "/"), d.expression(deep-1), d.expression(deep-1))
}

// nested: so many beginnings, what is within, so many ends.
func nested(count int, begin, within, end string) string {
	return strings.Repeat(begin, count) + within + strings.Repeat(end, count)
}

// on lines of their own: each word of a text.
func onLines(text string) string { return strings.Join(strings.Fields(text), "\n") }

// brief: a text for an error, not too long.
func brief(text string) string {
	if len(text) > 300 {
		return strconv.Quote(text[:300]) + ".."
	}
	return strconv.Quote(text)
}
