package elab

import (
	"workcell/api"
	"workcell/deck"
	"workcell/ware"
)

// runner of a program that was checked: what fuel is left, the actions so far, and the functions that are defined.
type runner struct {
	reckoner
	deck      []api.Seat
	fuel      int
	trace     []api.Action
	functions map[string]api.Node
}

// found: what the kids of a statement come to, in their order: its expressions' values and its wells' places.
type found struct {
	values []api.Quantity
	places []api.Place
}

// statements, one after the other, up to the first error.
func (r *runner) statements(l []api.Node, f frame) error {
	for _, n := range l {
		if err := r.statement(n, f); err != nil {
			return err
		}
	}
	return nil
}

func (r *runner) statement(n api.Node, f frame) error {
	if err := r.pay(n); err != nil {
		return err
	}
	if n.Kind == api.Define {
		r.functions[n.Text] = n
		return nil
	}
	kids, err := r.find(n, f)
	if err != nil {
		return err
	}
	switch n.Kind {
	case api.Let, api.Set:
		f[n.Text] = kids.values[0]
		return nil
	case api.For:
		return r.loop(n, kids.values, f)
	case api.If:
		return r.choice(n, kids.values, f)
	case api.Do:
		return r.do(n, kids.values)
	}
	return r.act(n, kids)
}

// pay for a statement, or for a turn of one.
func (r *runner) pay(n api.Node) error {
	if r.fuel == 0 {
		return at(n, api.ErrFuel)
	}
	r.fuel--
	return nil
}

// find what a statement's kids come to; blocks are for later.
func (r *runner) find(n api.Node, f frame) (found, error) {
	var kids found
	for _, kid := range n.Kids {
		switch kid.Kind {
		case api.Block:
		case api.Well:
			place, err := r.place(kid, f)
			if err != nil {
				return found{}, err
			}
			kids.places = append(kids.places, place)
		default:
			q, err := r.value(kid, f)
			if err != nil {
				return found{}, err
			}
			kids.values = append(kids.values, q)
		}
	}
	return kids, nil
}

// place of a well. Its seat is there, as the program was checked.
func (r *runner) place(n api.Node, f frame) (api.Place, error) {
	spot, err := r.spot(n.Kids, f)
	if err != nil {
		return api.Place{}, err
	}
	seat, _ := deck.Find(r.deck, n.Text)
	if _, e := ware.Middle(seat.Ware, spot); e != api.OK {
		return api.Place{}, at(n, api.ErrRange)
	}
	return api.Place{Slot: seat.Slot, Spot: spot}, nil
}

// spot of a well: told by its name, or by row and column. A protocol counts these from 1 on, a spot from 0 on.
func (r *runner) spot(kids []api.Node, f frame) (api.Spot, error) {
	if kids[0].Kind == api.SpotOf {
		spot, _ := ware.Spot(kids[0].Text) // no error comes: the tree may be
		return spot, nil
	}
	row, err := r.value(kids[0], f)
	if err != nil {
		return api.Spot{}, err
	}
	column, err := r.value(kids[1], f)
	return api.Spot{Row: row.Value - 1, Column: column.Value - 1}, err
}

// loop from the first value to the second. Each turn has its own number, whatever the turn ahead of it set.
func (r *runner) loop(n api.Node, ends []api.Quantity, f frame) error {
	for i := ends[0].Value; i <= ends[1].Value; i++ {
		if err := r.pay(n); err != nil {
			return err
		}
		f[n.Text] = api.Quantity{Kind: api.Number, Value: i}
		if err := r.statements(n.Kids[2].Kids, f); err != nil {
			return err
		}
	}
	return nil
}

func (r *runner) choice(n api.Node, sides []api.Quantity, f frame) error {
	blocks := n.Kids[2:]
	if sides[0].Value >= sides[1].Value {
		blocks = blocks[1:]
	}
	if len(blocks) == 0 {
		return nil
	}
	return r.statements(blocks[0].Kids, f)
}

// do a function, in a frame that has its parameters alone.
func (r *runner) do(n api.Node, values []api.Quantity) error {
	function := r.functions[n.Text]
	f := frame{}
	for i, q := range values {
		f[function.Kids[i].Text] = q
	}
	return r.statements(function.Kids[len(values)].Kids, f)
}
