package check

import (
	"workcell/api"
	"workcell/unit"
)

// scope: the names of a block with their kinds, and the scope around it, if there is one.
type scope struct {
	names  map[string]int
	around *scope
}

// within another scope, or within none: a new one.
func within(around *scope) *scope {
	return &scope{names: map[string]int{}, around: around}
}

// find the kind of a name, here or around.
func (s *scope) find(name string) (int, bool) {
	for ; s != nil; s = s.around {
		if kind, ok := s.names[name]; ok {
			return kind, true
		}
	}
	return 0, false
}

// add the name of a node, which must be a new one: no name hides another one.
func (s *scope) add(n api.Node, kind int) {
	if _, ok := s.find(n.Text); ok {
		refuse(n, api.ErrTwice)
	}
	s.names[n.Text] = kind
}

// named: the kind of a node's name, which must be known.
func (s *scope) named(n api.Node) int {
	kind, ok := s.find(n.Text)
	if !ok {
		refuse(n, api.ErrName)
	}
	return kind
}

// kind of an expression.
func (s *scope) kind(n api.Node) int {
	switch n.Kind {
	case api.Value:
		q, _ := unit.Read(n.Text) // no error comes: the tree may be
		return q.Kind
	case api.Name:
		return s.named(n)
	case api.Minus:
		return s.kind(n.Kids[0])
	}
	first := s.kind(n.Kids[0])
	second := s.kind(n.Kids[1])
	kind, ok := joined(n.Text, first, second)
	if !ok {
		refuse(n, api.ErrKind)
	}
	return kind
}

// must: an expression has to be of that kind.
func (s *scope) must(n api.Node, kind int) {
	if s.kind(n) != kind {
		refuse(n, api.ErrKind)
	}
}

// joined: the kind of what a sign makes of two kinds, if they fit.
func joined(sign string, first, second int) (int, bool) {
	switch sign {
	case "*":
		if first == api.Number {
			return second, true
		}
		return first, second == api.Number
	case "/":
		if second == api.Number {
			return first, true
		}
		return api.Number, first == second
	}
	return first, first == second
}
