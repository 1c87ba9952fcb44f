package elab_test

import (
	"slices"
	"strconv"

	"workcell/api"
)

// Words of kinds, and their least units.
var (
	kindWords = []string{"num", "vol", "len", "heat", "time", "turns"}
	units     = []string{"", "nl", "um", "mK", "ms", "rpm"}
)

// function: its name and the kinds that it asks for.
type function struct {
	name  string
	kinds []int
}

// drawer of programs that may be: it knows names and functions as a program goes on.
// One time in wild it draws numbers that are great, or signs that lead below 0.
type drawer struct {
	*die
	wild      int
	names     []api.Bound
	functions []function
	last      int
}

// program of some statements.
func (d *drawer) program() api.Node { return program(d.statements(1+d.n(9), 2)...) }

// statements, so many, with blocks in them so deep.
func (d *drawer) statements(count, deep int) []api.Node {
	var l []api.Node
	for range count {
		l = append(l, d.statement(deep))
	}
	return l
}

// block of some statements, with names that it knows more.
func (d *drawer) block(deep int, more ...api.Bound) api.Node {
	outside := d.names
	d.names = slices.Concat(outside, more)
	n := block(d.statements(d.n(5), deep-1)...)
	d.names = outside
	return n
}

func (d *drawer) statement(deep int) api.Node {
	kind := api.Let + d.n(api.Do-api.Let+1)
	if d.n(4) == 0 {
		kind = pick(d.die, api.Define, api.Do, api.For, api.If)
	}
	if kind == api.Define && deep < 2 || deep == 0 && (kind == api.For || kind == api.If) {
		kind = api.Set
	}
	switch kind {
	case api.Let:
		b := api.Bound{Name: d.newName(), Kind: d.n(6)}
		n := of(kind, b.Name, d.expression(b.Kind, 2))
		d.names = append(d.names, b)
		return n
	case api.Set:
		if len(d.names) > 0 {
			b := pick(d.die, d.names...)
			return of(kind, b.Name, d.expression(b.Kind, 2))
		}
		return of(api.Tip, "")
	case api.Fill:
		return of(kind, pick(d.die, "a", "b7"), d.well(), d.expression(api.Volume, 2))
	case api.Draw, api.Put:
		return of(kind, "", d.expression(api.Volume, 2), d.well())
	case api.Transfer:
		return of(kind, "", d.expression(api.Volume, 2), d.well(), d.well())
	case api.Warm:
		return of(kind, "", d.expression(api.Heat, 2))
	case api.Hold, api.Wait:
		return of(kind, "", d.expression(api.Time, 2))
	case api.Shake:
		return of(kind, "", d.expression(api.Turns, 2), d.expression(api.Time, 2))
	case api.For:
		low, high, name := d.expression(api.Number, 1), d.expression(api.Number, 1), d.newName()
		return of(kind, name, low, high, d.block(deep, api.Bound{Name: name}))
	case api.If:
		return d.choice(deep)
	case api.Define:
		return d.define(deep)
	case api.Do:
		return d.do()
	}
	return of(kind, "")
}

func (d *drawer) choice(deep int) api.Node {
	kind := d.n(6)
	n := of(api.If, "", d.expression(kind, 1), d.expression(kind, 1))
	for range 1 + d.n(2) {
		n.Kids = append(n.Kids, d.block(deep))
	}
	return n
}

// define a function: its parameters have names that those outside may have, too.
func (d *drawer) define(deep int) api.Node {
	outside := d.names
	d.names = nil
	f := function{name: "f" + strconv.Itoa(len(d.functions))}
	n := of(api.Define, f.name)
	for _, text := range []string{"a", "b", "i"}[:d.n(4)] {
		b := api.Bound{Name: text, Kind: d.n(6)}
		d.names = append(d.names, b)
		f.kinds = append(f.kinds, b.Kind)
		n.Kids = append(n.Kids, of(api.Param, b.Name, of(api.KindOf, kindWords[b.Kind])))
	}
	n.Kids = append(n.Kids, d.block(deep))
	d.names = outside
	d.functions = append(d.functions, f)
	return n
}

func (d *drawer) do() api.Node {
	if len(d.functions) == 0 {
		return of(api.Drop, "")
	}
	f := pick(d.die, d.functions...)
	n := of(api.Do, f.name)
	for _, kind := range f.kinds {
		n.Kids = append(n.Kids, d.expression(kind, 1))
	}
	return n
}

func (d *drawer) well() api.Node {
	if d.n(2) == 0 {
		return of(api.Well, pick(d.die, "p", "p", "q", "t"), of(api.SpotOf, pick(d.die, "A1", "a1")))
	}
	if d.n(d.wild) == 0 {
		return of(api.Well, pick(d.die, "p", "q", "t"), d.expression(api.Number, 1), d.expression(api.Number, 1))
	}
	return of(api.Well, "p", value(pick(d.die, "1", "2")), value(pick(d.die, "1", "2", "3")))
}

// newName: one that is not known yet; those of blocks that were left come again.
func (d *drawer) newName() string {
	text := pick(d.die, "a", "b", "c", "i")
	for slices.ContainsFunc(d.names, func(b api.Bound) bool { return b.Name == text }) {
		text += pick(d.die, "a", "B", "7")
	}
	return text
}

// amount of a kind.
func (d *drawer) amount(kind int) api.Node {
	number := 1 + d.n(4)
	if d.n(d.wild) == 0 {
		number = pick(d.die, 0, 33, 21000, 500000000, api.MaxValue)
	}
	return value(strconv.Itoa(number) + units[kind])
}

// expression of a kind, at most so deep.
func (d *drawer) expression(kind, deep int) api.Node {
	choice := d.n(8)
	if deep == 0 {
		choice %= 4
	}
	switch choice {
	case 2, 3:
		known := slices.DeleteFunc(slices.Clone(d.names), func(b api.Bound) bool { return b.Kind != kind })
		if len(known) > 0 {
			return name(pick(d.die, known...).Name)
		}
	case 4:
		if d.n(d.wild) == 0 {
			return minus(d.expression(kind, deep-1))
		}
		return minus(minus(d.expression(kind, deep-1)))
	case 5:
		if d.n(d.wild) == 0 {
			return binary("-", d.expression(kind, deep-1), d.expression(kind, deep-1))
		}
		return binary("+", d.expression(kind, deep-1), d.expression(kind, deep-1))
	case 6:
		if d.n(2) == 0 {
			return binary("*", d.expression(api.Number, deep-1), d.expression(kind, deep-1))
		}
		return binary(pick(d.die, "*", "/"), d.expression(kind, deep-1), d.expression(api.Number, deep-1))
	case 7:
		if kind == api.Number {
			of := d.n(6)
			return binary("/", d.expression(of, deep-1), d.expression(of, deep-1))
		}
	}
	return d.amount(kind)
}
