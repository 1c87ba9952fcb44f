package flow

import (
	"maps"
	"slices"

	"workcell/api"
	"workcell/mean"
)

// bench: a deck on which a trace goes on from anywhere, where mean.Run begins with nothing.
// Fluids are never written to, so copies may share them.
type bench struct {
	deck  []api.Seat
	wells map[api.Place][]api.Parcel // those that are not empty
	rest  api.State                  // but for its wells
}

// newBench: with nothing on.
func newBench(d []api.Seat) *bench {
	return &bench{deck: d, wells: map[api.Place][]api.Parcel{}}
}

// copied: another one with the same on it.
func (b *bench) copied() *bench {
	return &bench{deck: b.deck, wells: maps.Clone(b.wells), rest: b.rest}
}

// do actions, up to the first that is refused.
func (b *bench) do(l ...api.Action) api.Errno {
	for _, a := range l {
		next, e := mean.Apply(b.deck, b.shown(a.Place), a)
		if e != api.OK {
			return e
		}
		b.keep(a.Place, next)
	}
	return api.OK
}

// shown: the state with no other well than that: so an action takes as long as its well is, not as all wells are.
func (b *bench) shown(p api.Place) api.State {
	s := b.rest
	if f, has := b.wells[p]; has {
		s.Wells = []api.Filled{{Place: p, Fluid: f}}
	}
	return s
}

// keep what a state that was shown has become.
func (b *bench) keep(p api.Place, s api.State) {
	if f := mean.Well(s, p); len(f) > 0 {
		b.wells[p] = f
	} else {
		delete(b.wells, p)
	}
	s.Wells = nil
	b.rest = s
}

// hasWellsOf: is there the same in all wells as on another one?
func (b *bench) hasWellsOf(other *bench) bool {
	return maps.EqualFunc(b.wells, other.wells, slices.Equal)
}
