package check_test

import (
	"slices"

	"workcell/api"
	"workcell/unit"
	"workcell/ware"
)

// verdict: a line and an error.
type verdict struct {
	line int
	code api.Errno
}

func refused(n api.Node, code api.Errno) verdict { return verdict{n.Line, code} }

// first of some verdicts that is not OK; later ones are not asked for.
func first(verdicts ...func() verdict) verdict {
	for _, ask := range verdicts {
		if v := ask(); v.code != api.OK {
			return v
		}
	}
	return verdict{}
}

// function: its name and the kinds that it asks for.
type function struct {
	name  string
	kinds []int
}

// oracle of the chapter: it keeps names in one list, and asks unit which kinds fit.
type oracle struct {
	deck      []api.Seat
	names     []api.Bound
	functions []function
	deep      int
}

// find the last one of that name; -1: there is none.
func (o *oracle) find(name string) int {
	for i := len(o.names) - 1; i >= 0; i-- {
		if o.names[i].Name == name {
			return i
		}
	}
	return -1
}

// quantity: one that has the expression's kind.
func (o *oracle) quantity(n api.Node) (api.Quantity, verdict) {
	switch n.Kind {
	case api.Value:
		q, _ := unit.Read(n.Text)
		return api.Quantity{Kind: q.Kind, Value: 1}, verdict{}
	case api.Name:
		i := o.find(n.Text)
		if i < 0 {
			return api.Quantity{}, refused(n, api.ErrName)
		}
		return api.Quantity{Kind: o.names[i].Kind, Value: 1}, verdict{}
	}
	var both []api.Quantity
	for _, kid := range n.Kids {
		q, v := o.quantity(kid)
		if v.code != api.OK {
			return q, v
		}
		both = append(both, q)
	}
	if n.Kind == api.Minus {
		return both[0], verdict{}
	}
	make := map[string]func(a, b api.Quantity) (api.Quantity, api.Errno){"+": unit.Add, "-": unit.Add, "*": unit.Times, "/": unit.Over}
	q, e := make[n.Text](both[0], both[1])
	if e != api.OK {
		return api.Quantity{}, refused(n, e)
	}
	q.Value = 1
	return q, verdict{}
}

// asks: is the expression of one of these kinds?
func (o *oracle) asks(n api.Node, kinds ...int) func() verdict {
	return func() verdict {
		q, v := o.quantity(n)
		if v.code == api.OK && !slices.Contains(kinds, q.Kind) {
			return refused(n, api.ErrKind)
		}
		return v
	}
}

// well: what is wrong with it?
func (o *oracle) well(n api.Node) func() verdict {
	return func() verdict {
		i := slices.IndexFunc(o.deck, func(s api.Seat) bool { return s.Name == n.Text })
		if i < 0 {
			return refused(n, api.ErrNone)
		}
		if len(n.Kids) == 2 {
			return first(o.asks(n.Kids[0], api.Number), o.asks(n.Kids[1], api.Number))
		}
		spots, _ := ware.All(o.deck[i].Ware)
		spot, _ := ware.Spot(n.Kids[0].Text)
		if !slices.Contains(spots, spot) {
			return refused(n.Kids[0], api.ErrRange)
		}
		return verdict{}
	}
}

// block: what is wrong with its statements? What they name is forgotten behind it.
func (o *oracle) block(n api.Node) func() verdict {
	return func() verdict {
		before := len(o.names)
		o.deep++
		v := o.statements(n.Kids)
		o.deep--
		o.names = o.names[:before]
		return v
	}
}

func (o *oracle) statements(l []api.Node) verdict {
	for _, n := range l {
		if v := o.statement(n); v.code != api.OK {
			return v
		}
	}
	return verdict{}
}

// statement: which of its faults comes first?
func (o *oracle) statement(n api.Node) verdict {
	switch k := n.Kids; n.Kind {
	case api.Let:
		return o.let(n)
	case api.Set:
		return o.set(n)
	case api.Fill:
		return first(o.well(k[0]), o.asks(k[1], api.Volume))
	case api.Draw, api.Put:
		return first(o.asks(k[0], api.Volume), o.well(k[1]))
	case api.Transfer:
		return first(o.asks(k[0], api.Volume), o.well(k[1]), o.well(k[2]))
	case api.Warm:
		return first(o.asks(k[0], api.Heat))
	case api.Hold, api.Wait:
		return first(o.asks(k[0], api.Time))
	case api.Shake:
		return first(o.asks(k[0], api.Turns), o.asks(k[1], api.Time))
	case api.For:
		return o.loop(n)
	case api.If:
		return o.choice(n)
	case api.Define:
		return o.define(n)
	case api.Do:
		return o.do(n)
	}
	return verdict{}
}

func (o *oracle) let(n api.Node) verdict {
	q, v := o.quantity(n.Kids[0])
	if v.code == api.OK && o.find(n.Text) >= 0 {
		return refused(n, api.ErrTwice)
	}
	o.names = append(o.names, api.Bound{Name: n.Text, Kind: q.Kind})
	return v
}

func (o *oracle) set(n api.Node) verdict {
	q, v := o.quantity(n.Kids[0])
	i := o.find(n.Text)
	switch {
	case v.code != api.OK:
		return v
	case i < 0:
		return refused(n, api.ErrName)
	case o.names[i].Kind != q.Kind:
		return refused(n, api.ErrKind)
	}
	return verdict{}
}

func (o *oracle) loop(n api.Node) verdict {
	return first(o.asks(n.Kids[0], api.Number), o.asks(n.Kids[1], api.Number), func() verdict {
		if o.find(n.Text) >= 0 {
			return refused(n, api.ErrTwice)
		}
		o.names = append(o.names, api.Bound{Name: n.Text, Kind: api.Number})
		v := o.block(n.Kids[2])()
		o.names = o.names[:len(o.names)-1]
		return v
	})
}

func (o *oracle) choice(n api.Node) verdict {
	q, v := o.quantity(n.Kids[0])
	if v.code != api.OK {
		return v
	}
	asked := []func() verdict{o.asks(n.Kids[1], q.Kind)}
	for _, kid := range n.Kids[2:] {
		asked = append(asked, o.block(kid))
	}
	return first(asked...)
}

func (o *oracle) define(n api.Node) verdict {
	if o.deep > 0 {
		return refused(n, api.ErrState)
	}
	if slices.ContainsFunc(o.functions, func(f function) bool { return f.name == n.Text }) {
		return refused(n, api.ErrTwice)
	}
	f := function{name: n.Text}
	inner := oracle{deck: o.deck, functions: o.functions}
	for _, kid := range n.Kids[:len(n.Kids)-1] {
		kind := slices.Index(kindWords, kid.Kids[0].Text)
		if inner.find(kid.Text) >= 0 {
			return refused(kid, api.ErrTwice)
		}
		inner.names = append(inner.names, api.Bound{Name: kid.Text, Kind: kind})
		f.kinds = append(f.kinds, kind)
	}
	v := inner.block(n.Kids[len(n.Kids)-1])()
	o.functions = append(o.functions, f)
	return v
}

func (o *oracle) do(n api.Node) verdict {
	i := slices.IndexFunc(o.functions, func(f function) bool { return f.name == n.Text })
	if i < 0 {
		return refused(n, api.ErrName)
	}
	kinds := o.functions[i].kinds
	if len(kinds) != len(n.Kids) {
		return refused(n, api.ErrCount)
	}
	var asked []func() verdict
	for j, kid := range n.Kids {
		asked = append(asked, o.asks(kid, kinds[j]))
	}
	return first(asked...)
}
