package elab

import (
	"workcell/api"
	"workcell/unit"
)

// frame: the names of a program, or of one doing of a function, with their values. It has those of all blocks:
// no name hides another one, and where a block is left, none asks for its names until they have values anew.
type frame map[string]api.Quantity

// operation on two quantities.
type operation func(a, b api.Quantity) (api.Quantity, api.Errno)

// reckoner of expressions: what signs do; and the amounts that were read, as loops come to one many times.
type reckoner struct {
	signs   map[string]operation
	amounts map[string]api.Quantity
}

func newReckoner() reckoner {
	return reckoner{
		signs: map[string]operation{
			"+": unit.Add,
			"-": func(a, b api.Quantity) (api.Quantity, api.Errno) { return unit.Add(a, opposite(b)) },
			"*": unit.Times,
			"/": unit.Over,
		},
		amounts: map[string]api.Quantity{},
	}
}

// opposite of a quantity: no error comes, as its value may be.
func opposite(q api.Quantity) api.Quantity {
	q, _ = unit.Times(q, api.Quantity{Kind: api.Number, Value: -1})
	return q
}

// value of an expression whose names are known, and whose kinds fit.
func (r reckoner) value(n api.Node, f frame) (api.Quantity, error) {
	switch n.Kind {
	case api.Value:
		return r.amount(n.Text), nil
	case api.Name:
		return f[n.Text], nil
	case api.Minus:
		q, err := r.value(n.Kids[0], f)
		return opposite(q), err
	}
	first, err := r.value(n.Kids[0], f)
	if err != nil {
		return api.Quantity{}, err
	}
	second, err := r.value(n.Kids[1], f)
	if err != nil {
		return api.Quantity{}, err
	}
	q, e := r.signs[n.Text](first, second)
	return q, at(n, e)
}

// amount: what a text says. No error comes: the tree may be.
func (r reckoner) amount(text string) api.Quantity {
	q, ok := r.amounts[text]
	if !ok {
		q, _ = unit.Read(text)
		r.amounts[text] = q
	}
	return q
}
