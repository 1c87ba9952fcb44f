package tree

import (
	"slices"

	"workcell/api"
)

// class of nodes: is a node one of them?
type class func(api.Node) bool

// shape: what the text and the kids of a node must be like.
type shape struct {
	text func(string) bool
	kids func([]api.Node) bool
}

// shapes of all kinds of nodes.
func shapes() map[int]shape {
	statement, expression := from(api.Let, api.Do), from(api.Value, api.Binary)
	well, block := just(api.Well), just(api.Block)
	return map[int]shape{
		api.Program:  {isEmpty, all(statement)},
		api.Block:    {isEmpty, all(statement)},
		api.Let:      {isName, each(expression)},
		api.Set:      {isName, each(expression)},
		api.Fill:     {isLabel, each(well, expression)},
		api.Tip:      {isEmpty, each()},
		api.Drop:     {isEmpty, each()},
		api.Draw:     {isEmpty, each(expression, well)},
		api.Put:      {isEmpty, each(expression, well)},
		api.Transfer: {isEmpty, each(expression, well, well)},
		api.Warm:     {isEmpty, each(expression)},
		api.Hold:     {isEmpty, each(expression)},
		api.Shake:    {isEmpty, each(expression, expression)},
		api.Wait:     {isEmpty, each(expression)},
		api.For:      {isName, each(expression, expression, block)},
		api.If:       {isEmpty, either(each(expression, expression, block), each(expression, expression, block, block))},
		api.Define:   {isName, ended(all(just(api.Param)), block)},
		api.Do:       {isName, all(expression)},
		api.Param:    {isName, each(just(api.KindOf))},
		api.KindOf:   {isKind, each()},
		api.Well:     {isName, either(each(expression, expression), each(just(api.SpotOf)))},
		api.SpotOf:   {isSpot, each()},
		api.Value:    {isAmount, each()},
		api.Name:     {isName, each()},
		api.Minus:    {isEmpty, each(expression)},
		api.Binary:   {isOperator, each(expression, expression)},
	}
}

// from one kind to another one: nodes of these.
func from(first, last int) class {
	return func(n api.Node) bool { return first <= n.Kind && n.Kind <= last }
}

// just that kind.
func just(kind int) class { return from(kind, kind) }

// all kids, however many, are of the class.
func all(of class) func([]api.Node) bool {
	return func(kids []api.Node) bool {
		return !slices.ContainsFunc(kids, func(n api.Node) bool { return !of(n) })
	}
}

// each kid is of its own class, and there are as many as classes.
func each(classes ...class) func([]api.Node) bool {
	return func(kids []api.Node) bool {
		return slices.EqualFunc(kids, classes, func(n api.Node, of class) bool { return of(n) })
	}
}

// either: kids are like the one, or like the other.
func either(one, other func([]api.Node) bool) func([]api.Node) bool {
	return func(kids []api.Node) bool { return one(kids) || other(kids) }
}

// ended: the last kid, which there must be, is of the class, those ahead of it are as told.
func ended(ahead func([]api.Node) bool, of class) func([]api.Node) bool {
	return func(kids []api.Node) bool {
		last := len(kids) - 1
		return last >= 0 && of(kids[last]) && ahead(kids[:last])
	}
}

// isShaped: is each node of a tree like what its kind asks for?
func isShaped(n api.Node, must map[int]shape) bool {
	asked, ok := must[n.Kind]
	if !ok || !asked.text(n.Text) || !asked.kids(n.Kids) {
		return false
	}
	for _, kid := range n.Kids {
		if !isShaped(kid, must) {
			return false
		}
	}
	return true
}
