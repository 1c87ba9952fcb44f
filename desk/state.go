package desk

import (
	"maps"

	"workcell/api"
	"workcell/mean"
)

// state of the deck. Wells stand in a map, so that an action takes as long however many of them are filled.
type state struct {
	wells     map[api.Place][]api.Parcel // those that are not empty
	api.State                            // but for its wells
}

// newState: without anything.
func newState() state { return state{wells: map[api.Place][]api.Parcel{}} }

// after: the state that actions make of this one, which stays as it is.
func (s state) after(d []api.Seat, actions []api.Action) (state, api.Errno) {
	s.wells = maps.Clone(s.wells)
	for _, a := range actions {
		if e := s.apply(d, a); e != api.OK {
			return state{}, e
		}
	}
	return s, api.OK
}

// apply an action. It asks for no well but its own, so that one alone is shown to mean.
func (s *state) apply(d []api.Seat, a api.Action) api.Errno {
	part := s.State
	if f := s.wells[a.Place]; len(f) > 0 {
		part.Wells = []api.Filled{{Place: a.Place, Fluid: f}}
	}
	next, e := mean.Apply(d, part, a)
	if e != api.OK {
		return e
	}
	delete(s.wells, a.Place)
	for _, w := range next.Wells {
		s.wells[w.Place] = w.Fluid
	}
	next.Wells = nil
	s.State = next
	return api.OK
}
