package elab

import (
	"cmp"
	"slices"

	"workcell/api"
	"workcell/unit"
)

// act: the actions of a statement come to the trace, all or none.
func (r *runner) act(n api.Node, kids found) error {
	l, e := r.actions(n, kids)
	if e == api.OK && len(r.trace)+len(l) > api.MaxTrace {
		e = api.ErrSize
	}
	if e != api.OK {
		return at(n, e)
	}
	r.trace = append(r.trace, l...)
	return nil
}

// actions of a statement, by what its kids come to.
func (r *runner) actions(n api.Node, kids found) ([]api.Action, api.Errno) {
	a := api.Action{Kind: n.Kind}
	e := api.OK
	switch n.Kind {
	case api.Transfer:
		return r.transfer(kids)
	case api.Fill, api.Draw, api.Put:
		a.Label, a.Place = n.Text, kids.places[0] // of Fill alone there is a text
		a.Volume, e = volume(kids.values[0])
	case api.Warm:
		a.Value, e = notBelow0(kids.values[0])
	case api.Hold, api.Wait:
		a.Time, e = notBelow0(kids.values[0])
	case api.Shake:
		turns, wrong := notBelow0(kids.values[0])
		time, alsoWrong := notBelow0(kids.values[1])
		a.Value, a.Time, e = turns, time, cmp.Or(wrong, alsoWrong)
	}
	return []api.Action{a}, e
}

// transfer of a volume with one tip, in as many parts as its capacity asks for.
func (r *runner) transfer(kids found) ([]api.Action, api.Errno) {
	total, e := volume(kids.values[0])
	if e != api.OK {
		return nil, e
	}
	most := capacity(r.deck)
	if most == 0 {
		return nil, api.ErrTip
	}
	parts, e := unit.Parts(total, most)
	l := []api.Action{{Kind: api.Tip}}
	for _, part := range parts {
		l = append(l,
			api.Action{Kind: api.Draw, Place: kids.places[0], Volume: part},
			api.Action{Kind: api.Put, Place: kids.places[1], Volume: part})
	}
	return append(l, api.Action{Kind: api.Drop}), e
}

// capacity of tips: that of the rack in the least slot; 0 without racks.
func capacity(d []api.Seat) int {
	racks := slices.DeleteFunc(slices.Clone(d), func(s api.Seat) bool { return s.Ware.Kind != api.Rack })
	if len(racks) == 0 {
		return 0
	}
	first := slices.MinFunc(racks, func(a, b api.Seat) int { return cmp.Compare(a.Slot, b.Slot) })
	return first.Ware.Capacity
}

// volume of an action: there is none of nothing.
func volume(q api.Quantity) (int, api.Errno) {
	if q.Value < 1 || q.Value > api.MaxVolume {
		return 0, api.ErrRange
	}
	return q.Value, api.OK
}

// notBelow0: a heat, turns or a time of an action.
func notBelow0(q api.Quantity) (int, api.Errno) {
	if q.Value < 0 {
		return 0, api.ErrRange
	}
	return q.Value, api.OK
}
