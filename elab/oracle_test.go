package elab_test

import (
	"math/big"
	"slices"

	"workcell/api"
	"workcell/unit"
	"workcell/ware"
)

// bound: a name and its value.
type bound struct {
	name string
	is   api.Quantity
}

// oracle of the chapter: it keeps names in one list that grows and shrinks with blocks, reckons with numbers
// of any size, and counts what was paid. A fault is thrown as a verdict.
type oracle struct {
	deck      []api.Seat
	fuel      int
	paid      int
	names     []bound
	functions []api.Node
	trace     []api.Action
}

// run a program that was checked.
func (o *oracle) run(n api.Node) ([]api.Action, verdict) {
	wrong := caught(func() { o.statements(n.Kids) })
	if wrong != (verdict{}) {
		return nil, wrong
	}
	return o.trace, wrong
}

// caught: the verdict that is thrown, if one is.
func caught(work func()) (wrong verdict) {
	defer func() {
		if thrown := recover(); thrown != nil {
			wrong = thrown.(verdict)
		}
	}()
	work()
	return verdict{}
}

// throw a verdict at a node, if it must.
func throw(must bool, n api.Node, code api.Errno) {
	if must {
		panic(verdict{n.Line, code})
	}
}

func (o *oracle) pay(n api.Node) {
	o.paid++
	throw(o.paid > o.fuel, n, api.ErrFuel)
}

// find the last one of that name.
func (o *oracle) find(name string) *bound {
	for i := len(o.names) - 1; i >= 0; i-- {
		if o.names[i].name == name {
			return &o.names[i]
		}
	}
	panic("unknown: " + name)
}

// value of an expression whose kinds fit.
func (o *oracle) value(n api.Node) api.Quantity {
	switch n.Kind {
	case api.Value:
		q, _ := unit.Read(n.Text)
		return q
	case api.Name:
		return o.find(n.Text).is
	case api.Minus:
		q := o.value(n.Kids[0])
		return quantity(q.Kind, -q.Value)
	}
	first := o.value(n.Kids[0])
	second := o.value(n.Kids[1])
	a, b := big.NewInt(int64(first.Value)), big.NewInt(int64(second.Value))
	kind, result := first.Kind, new(big.Int)
	switch n.Text {
	case "+":
		result.Add(a, b)
	case "-":
		result.Sub(a, b)
	case "*":
		kind = max(first.Kind, second.Kind) // one is a number, which is 0
		result.Mul(a, b)
	case "/":
		throw(second.Value == 0, n, api.ErrNone)
		kind = first.Kind - second.Kind // the second is a number, or they are alike
		result.Quo(a, b)
	}
	throw(result.CmpAbs(big.NewInt(api.MaxValue)) > 0, n, api.ErrRange)
	return quantity(kind, int(result.Int64()))
}

// well: its place.
func (o *oracle) well(n api.Node) api.Place {
	seat := o.deck[slices.IndexFunc(o.deck, func(s api.Seat) bool { return s.Name == n.Text })]
	if len(n.Kids) == 1 {
		spot, _ := ware.Spot(n.Kids[0].Text)
		return api.Place{Slot: seat.Slot, Spot: spot}
	}
	row := o.value(n.Kids[0]).Value
	column := o.value(n.Kids[1]).Value
	throw(row < 1 || row > seat.Ware.Rows || column < 1 || column > seat.Ware.Columns, n, api.ErrRange)
	return place(seat.Slot, row-1, column-1)
}

func (o *oracle) statements(l []api.Node) {
	for _, n := range l {
		o.statement(n)
	}
}

// block: its statements; what they name is forgotten behind it.
func (o *oracle) block(n api.Node, more ...bound) {
	before := len(o.names)
	o.names = append(o.names, more...)
	o.statements(n.Kids)
	o.names = o.names[:before]
}

func (o *oracle) statement(n api.Node) {
	o.pay(n)
	switch k := n.Kids; n.Kind {
	case api.Let:
		o.names = append(o.names, bound{n.Text, o.value(k[0])})
	case api.Set:
		q := o.value(k[0])
		o.find(n.Text).is = q
	case api.For:
		o.loop(n)
	case api.If:
		a := o.value(k[0])
		b := o.value(k[1])
		if a.Value < b.Value {
			o.block(k[2])
		} else if len(k) > 3 {
			o.block(k[3])
		}
	case api.Define:
		o.functions = append(o.functions, n)
	case api.Do:
		o.do(n)
	default:
		o.acts(n)
	}
}

func (o *oracle) loop(n api.Node) {
	low := o.value(n.Kids[0]).Value
	high := o.value(n.Kids[1]).Value
	for i := low; i <= high; i++ {
		o.pay(n)
		o.block(n.Kids[2], bound{n.Text, quantity(api.Number, i)})
	}
}

func (o *oracle) do(n api.Node) {
	function := o.functions[slices.IndexFunc(o.functions, func(f api.Node) bool { return f.Text == n.Text })]
	var params []bound
	for i, kid := range n.Kids {
		params = append(params, bound{function.Kids[i].Text, o.value(kid)})
	}
	outside := o.names
	o.names = nil
	o.block(function.Kids[len(function.Kids)-1], params...)
	o.names = outside
}

// acts: actions of a statement that does nothing else.
func (o *oracle) acts(n api.Node) {
	var l []api.Action
	switch k := n.Kids; n.Kind {
	case api.Fill:
		p := o.well(k[0])
		l = append(l, fill(p, n.Text, o.amount(n, o.value(k[1]), 1)))
	case api.Draw, api.Put:
		q := o.value(k[0])
		p := o.well(k[1])
		l = append(l, api.Action{Kind: n.Kind, Place: p, Volume: o.amount(n, q, 1)})
	case api.Transfer:
		q := o.value(k[0])
		from := o.well(k[1])
		into := o.well(k[2])
		l = o.transfer(n, o.amount(n, q, 1), from, into)
	case api.Warm:
		l = append(l, api.Action{Kind: n.Kind, Value: o.amount(n, o.value(k[0]), 0)})
	case api.Hold, api.Wait:
		l = append(l, api.Action{Kind: n.Kind, Time: o.amount(n, o.value(k[0]), 0)})
	case api.Shake:
		turns := o.value(k[0])
		time := o.value(k[1])
		l = append(l, api.Action{Kind: n.Kind, Value: o.amount(n, turns, 0), Time: o.amount(n, time, 0)})
	default:
		l = append(l, api.Action{Kind: n.Kind})
	}
	throw(len(o.trace)+len(l) > api.MaxTrace, n, api.ErrSize)
	o.trace = append(o.trace, l...)
}

// amount of a statement, which must be so great at least.
func (o *oracle) amount(n api.Node, q api.Quantity, least int) int {
	throw(q.Value < least, n, api.ErrRange)
	return q.Value
}

// transfer: so many parts that none is above a tip's capacity; what is left over comes to the first ones.
func (o *oracle) transfer(n api.Node, total int, from, into api.Place) []api.Action {
	most := 0
	for slot := api.Slots; slot > 0; slot-- {
		for _, s := range o.deck {
			if s.Slot == slot && s.Ware.Kind == api.Rack {
				most = s.Ware.Capacity
			}
		}
	}
	throw(most == 0, n, api.ErrTip)
	count := (total + most - 1) / most
	throw(count > 1000, n, api.ErrCount)
	l := []api.Action{tip}
	for i := range count {
		part := total / count
		if i < total%count {
			part++
		}
		l = append(l, draw(from, part), put(into, part))
	}
	return append(l, drop)
}
