package check

import (
	"workcell/api"
	"workcell/deck"
	"workcell/ware"
)

// checker of a program: its deck, and the functions that are known so far, with their parameters' kinds.
type checker struct {
	deck      []api.Seat
	functions map[string][]int
}

// statements, one after the other, all in one scope.
func (c checker) statements(l []api.Node, s *scope) {
	for _, n := range l {
		c.statement(n, s)
	}
}

// block in a scope of its own.
func (c checker) block(n api.Node, around *scope) {
	c.statements(n.Kids, within(around))
}

func (c checker) statement(n api.Node, s *scope) {
	switch n.Kind {
	case api.Let:
		s.add(n, s.kind(n.Kids[0]))
	case api.Set:
		set(n, s)
	case api.Fill:
		c.well(n.Kids[0], s)
		s.must(n.Kids[1], api.Volume)
	case api.Draw, api.Put, api.Transfer:
		s.must(n.Kids[0], api.Volume)
		for _, well := range n.Kids[1:] {
			c.well(well, s)
		}
	case api.Warm:
		s.must(n.Kids[0], api.Heat)
	case api.Hold, api.Wait:
		s.must(n.Kids[0], api.Time)
	case api.Shake:
		s.must(n.Kids[0], api.Turns)
		s.must(n.Kids[1], api.Time)
	case api.For:
		c.loop(n, s)
	case api.If:
		c.choice(n, s)
	case api.Define:
		c.define(n, s)
	case api.Do:
		c.do(n, s)
	}
}

// set: the name must be known, and of the expression's kind.
func set(n api.Node, s *scope) {
	kind := s.kind(n.Kids[0])
	if s.named(n) != kind {
		refuse(n, api.ErrKind)
	}
}

// well of a seat: a spot that its ware has, or two numbers, of which the run tells more.
func (c checker) well(n api.Node, s *scope) {
	seat, e := deck.Find(c.deck, n.Text)
	if e != api.OK {
		refuse(n, api.ErrNone)
	}
	for _, kid := range n.Kids {
		if kid.Kind != api.SpotOf {
			s.must(kid, api.Number)
		} else if !hasSpot(seat.Ware, kid.Text) {
			refuse(kid, api.ErrRange)
		}
	}
}

// hasSpot: has the ware one of that name?
func hasSpot(w api.Ware, name string) bool {
	spot, _ := ware.Spot(name) // no error comes: the tree may be
	_, e := ware.Middle(w, spot)
	return e == api.OK
}

// loop: its name stands in a scope between those of what is around it and of its block.
func (c checker) loop(n api.Node, s *scope) {
	s.must(n.Kids[0], api.Number)
	s.must(n.Kids[1], api.Number)
	turn := within(s)
	turn.add(n, api.Number)
	c.block(n.Kids[2], turn)
}

func (c checker) choice(n api.Node, s *scope) {
	s.must(n.Kids[1], s.kind(n.Kids[0]))
	for _, block := range n.Kids[2:] {
		c.block(block, s)
	}
}

// define a function. It is known behind itself alone, so that none can call itself.
func (c checker) define(n api.Node, s *scope) {
	if s.around != nil { // only a Program's scope has none around it
		refuse(n, api.ErrState)
	}
	if _, ok := c.functions[n.Text]; ok {
		refuse(n, api.ErrTwice)
	}
	last := len(n.Kids) - 1
	params := within(nil)
	var kinds []int
	for _, param := range n.Kids[:last] {
		kind := kindNamed(param.Kids[0].Text)
		params.add(param, kind)
		kinds = append(kinds, kind)
	}
	c.block(n.Kids[last], params)
	c.functions[n.Text] = kinds
}

// do a function: as many expressions as it has parameters, of their kinds.
func (c checker) do(n api.Node, s *scope) {
	kinds, ok := c.functions[n.Text]
	if !ok {
		refuse(n, api.ErrName)
	}
	if len(kinds) != len(n.Kids) {
		refuse(n, api.ErrCount)
	}
	for i, kid := range n.Kids {
		s.must(kid, kinds[i])
	}
}

// kindNamed: the kind of quantities that a protocol calls so.
func kindNamed(name string) int {
	switch name {
	case "vol":
		return api.Volume
	case "len":
		return api.Length
	case "heat":
		return api.Heat
	case "time":
		return api.Time
	case "turns":
		return api.Turns
	}
	return api.Number
}
