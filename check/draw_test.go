package check_test

import (
	"slices"

	"workcell/api"
)

// drawer of programs: it knows names and functions as a program goes on, so that most of what it draws fits.
// One time in slip it forgets what would fit.
type drawer struct {
	*die
	slip      int
	names     []api.Bound
	functions []function
}

func (d *drawer) slips() bool { return d.n(d.slip) == 0 }

// slipsMore: likewise, where there is little to slip at.
func (d *drawer) slipsMore() bool { return d.n(1+d.slip/8) == 0 }

// program of some statements.
func (d *drawer) program() api.Node { return program(d.statements(1+d.n(7), 2)...) }

// statements, so many, with blocks in them so deep.
func (d *drawer) statements(count, deep int) []api.Node {
	var l []api.Node
	for range count {
		l = append(l, d.statement(deep))
	}
	return l
}

// block of some statements, with a name that it may know more.
func (d *drawer) block(deep int, more ...api.Bound) api.Node {
	outside := d.names
	d.names = slices.Concat(outside, more)
	n := block(d.statements(d.n(5), deep-1)...)
	if !d.slips() {
		d.names = outside
	}
	return n
}

func (d *drawer) statement(deep int) api.Node {
	kind := api.Let + d.n(api.Do-api.Let+1)
	if d.n(5) == 0 {
		kind = pick(d.die, api.Define, api.Do)
	}
	if kind == api.Define && deep < 2 && !d.slipsMore() || deep == 0 && (kind == api.For || kind == api.If || kind == api.Define) {
		kind = api.Let
	}
	switch kind {
	case api.Let:
		b := api.Bound{Name: d.newName(), Kind: d.n(6)}
		n := of(kind, b.Name, d.expression(b.Kind, 2))
		d.names = append(d.names, b)
		return n
	case api.Set:
		return d.set()
	case api.Fill:
		return of(kind, "a", d.well(), d.expression(api.Volume, 2))
	case api.Draw, api.Put:
		return of(kind, "", d.expression(api.Volume, 2), d.well())
	case api.Transfer:
		return of(kind, "", d.expression(api.Volume, 2), d.well(), d.well())
	case api.Warm:
		return of(kind, "", d.expression(api.Heat, 3))
	case api.Hold, api.Wait:
		return of(kind, "", d.expression(api.Time, 3))
	case api.Shake:
		return of(kind, "", d.expression(api.Turns, 2), d.expression(api.Time, 2))
	case api.For:
		low, high, name := d.expression(api.Number, 1), d.expression(api.Number, 1), d.newName()
		return of(kind, name, low, high, d.block(deep, api.Bound{Name: name}))
	case api.If:
		return d.choice(deep)
	case api.Define:
		return d.define(deep)
	case api.Do:
		return d.do()
	}
	return of(kind, "")
}

func (d *drawer) set() api.Node {
	if len(d.names) == 0 || d.slips() {
		return of(api.Set, d.anyName(), d.expression(d.n(6), 2))
	}
	b := pick(d.die, d.names...)
	return of(api.Set, b.Name, d.expression(b.Kind, 2))
}

func (d *drawer) choice(deep int) api.Node {
	kind := d.n(6)
	n := of(api.If, "", d.expression(kind, 1), d.expression(kind, 1))
	for range 1 + d.n(2) {
		n.Kids = append(n.Kids, d.block(deep))
	}
	return n
}

func (d *drawer) define(deep int) api.Node {
	outside := d.names
	d.names = nil
	n := of(api.Define, pick(d.die, "f", "g", "h", "a"))
	f := function{name: n.Text}
	for range d.n(4) {
		b := api.Bound{Name: d.newName(), Kind: d.n(6)}
		d.names = append(d.names, b)
		f.kinds = append(f.kinds, b.Kind)
		n.Kids = append(n.Kids, of(api.Param, b.Name, of(api.KindOf, kindWords[b.Kind])))
	}
	n.Kids = append(n.Kids, d.block(deep))
	d.names = outside
	d.functions = append(d.functions, f)
	return n
}

func (d *drawer) do() api.Node {
	if len(d.functions) == 0 {
		return of(api.Tip, "")
	}
	f := pick(d.die, d.functions...)
	n := of(api.Do, f.name)
	if d.slips() {
		n.Text = pick(d.die, "f", "g", "h", "x")
	}
	for _, kind := range f.kinds {
		n.Kids = append(n.Kids, d.expression(kind, 1))
	}
	switch {
	case !d.slipsMore():
	case len(n.Kids) > 0 && d.n(2) == 0:
		n.Kids = n.Kids[1:]
	default:
		n.Kids = append(n.Kids, d.expression(d.n(6), 1))
	}
	return n
}

func (d *drawer) well() api.Node {
	seat := pick(d.die, "p", "q", "r", "t")
	if d.slips() {
		seat = "z"
	}
	if d.n(2) == 0 {
		return of(api.Well, seat, d.expression(api.Number, 1), d.expression(api.Number, 1))
	}
	spot := "A1"
	if d.slips() {
		spot = pick(d.die, "A2", "B3", "C1", "P24", "b4", "h1")
	}
	return of(api.Well, seat, of(api.SpotOf, spot))
}

// anyName of a few.
func (d *drawer) anyName() string { return pick(d.die, "a", "b", "c", "i", "x1", "f") }

// newName: one that is not known yet, if it does not slip.
func (d *drawer) newName() string {
	if d.slips() {
		return d.anyName()
	}
	text := d.anyName()
	for slices.ContainsFunc(d.names, func(b api.Bound) bool { return b.Name == text }) {
		text += pick(d.die, "a", "B", "7")
	}
	return text
}

// expression of a kind, at most so deep.
func (d *drawer) expression(kind, deep int) api.Node {
	if d.slips() {
		kind = d.n(6)
	}
	if d.slips() {
		return name(d.anyName())
	}
	choice := d.n(8)
	if deep == 0 {
		choice %= 4
	}
	switch choice {
	case 0, 1:
		return value(amounts[kind])
	case 2, 3:
		for _, b := range d.names {
			if b.Kind == kind {
				return name(b.Name)
			}
		}
		return value(amounts[kind])
	case 4:
		return minus(d.expression(kind, deep-1))
	case 5:
		return binary(pick(d.die, "+", "-"), d.expression(kind, deep-1), d.expression(kind, deep-1))
	case 6:
		if d.n(2) == 0 {
			return binary("*", d.expression(api.Number, deep-1), d.expression(kind, deep-1))
		}
		return binary(pick(d.die, "*", "/"), d.expression(kind, deep-1), d.expression(api.Number, deep-1))
	}
	if kind == api.Number {
		of := d.n(6)
		return binary("/", d.expression(of, deep-1), d.expression(of, deep-1))
	}
	return value(amounts[kind])
}
