package tree

import "workcell/api"

// part of a statement: it is read into the statement's node.
type part func(*parser, *api.Node)

// rule of a statement: the kind of its node, and what stands behind its first word.
type rule struct {
	kind  int
	parts []part
}

// rules of all statements, by their first words.
func rules() map[string]rule {
	expression, well, block := kid((*parser).expression), kid((*parser).well), kid((*parser).block)
	parameters, arguments := listed((*parser).parameter), listed((*parser).expression)
	return map[string]rule{
		"let":   {api.Let, []part{named, spelt("="), expression}},
		"set":   {api.Set, []part{named, spelt("="), expression}},
		"fill":  {api.Fill, []part{well, spelt("with"), labelled, expression}},
		"tip":   {api.Tip, nil},
		"drop":  {api.Drop, nil},
		"draw":  {api.Draw, []part{expression, spelt("from"), well}},
		"put":   {api.Put, []part{expression, spelt("into"), well}},
		"move":  {api.Transfer, []part{expression, spelt("from"), well, spelt("into"), well}},
		"heat":  {api.Warm, []part{expression}},
		"hold":  {api.Hold, []part{expression}},
		"shake": {api.Shake, []part{expression, spelt("for"), expression}},
		"wait":  {api.Wait, []part{expression}},
		"for":   {api.For, []part{named, spelt("from"), expression, spelt("to"), expression, block}},
		"if":    {api.If, []part{expression, spelt("<"), expression, block, otherwise(block)}},
		"def":   {api.Define, []part{named, parameters, block}},
		"do":    {api.Do, []part{named, arguments}},
	}
}

// named: a name is the node's text.
func named(p *parser, n *api.Node) { n.Text = p.take(api.Word, isName).Text }

// labelled: a label is the node's text.
func labelled(p *parser, n *api.Node) { n.Text = p.take(api.String, isLabel).Text }

// spelt: that word or sign, of which nothing is kept.
func spelt(text string) part {
	return func(p *parser, _ *api.Node) { p.expect(text) }
}

// kid of the node, read so.
func kid(read func(*parser) api.Node) part {
	return func(p *parser, n *api.Node) { n.Kids = append(n.Kids, read(p)) }
}

// listed: kids of the node in parentheses, each read so, with commas between.
func listed(read func(*parser) api.Node) part {
	one := kid(read)
	return func(p *parser, n *api.Node) {
		p.expect("(")
		if !p.isNext(")") {
			one(p, n)
			for p.isNext(",") {
				p.expect(",")
				one(p, n)
			}
		}
		p.expect(")")
	}
}

// otherwise: `else` and a block, or nothing.
func otherwise(block part) part {
	return func(p *parser, n *api.Node) {
		if p.isNext("else") {
			p.expect("else")
			block(p, n)
		}
	}
}
