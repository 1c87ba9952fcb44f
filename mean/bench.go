package mean

import (
	"slices"

	"workcell/api"
	"workcell/fluid"
)

// deed: what an action does at a bench: all of it, or with an error nothing.
type deed func(*bench, api.Action) api.Errno

// bench: a deck with a state that goes on, action by action.
// It always is one that may be; lists within it are never written to, as they may have been handed in.
type bench struct {
	layout
	deeds map[int]deed
	wells map[api.Place][]api.Parcel // those that are not empty
	state api.State                  // but for its wells
}

// newBench: for a deck and a state that may be.
func newBench(d []api.Seat, s api.State) *bench {
	b := &bench{layout: newLayout(d), deeds: deedsOfKinds(), wells: map[api.Place][]api.Parcel{}, state: s}
	for _, w := range s.Wells {
		b.wells[w.Place] = w.Fluid
	}
	return b
}

// deedsOfKinds: what each kind of action does.
func deedsOfKinds() map[int]deed {
	return map[int]deed{
		api.Fill:  (*bench).fill,
		api.Tip:   (*bench).tip,
		api.Drop:  (*bench).drop,
		api.Draw:  (*bench).draw,
		api.Put:   (*bench).put,
		api.Warm:  (*bench).warm,
		api.Hold:  (*bench).pass,
		api.Shake: (*bench).shake,
		api.Wait:  (*bench).pass,
	}
}

// told: the state as it is now, in memory of its own.
func (b *bench) told() api.State {
	s := b.state
	s.Wells = nil
	for p, f := range b.wells {
		s.Wells = append(s.Wells, api.Filled{Place: p, Fluid: slices.Clone(f)})
	}
	slices.SortFunc(s.Wells, byPlace)
	s.Held = slices.Clone(s.Held)
	s.Touched = slices.Clone(s.Touched)
	return s
}

// do an action.
func (b *bench) do(a api.Action) api.Errno {
	does, ok := b.deeds[a.Kind]
	if !ok {
		return api.ErrKind
	}
	return does(b, a)
}

func (b *bench) fill(a api.Action) api.Errno {
	most, e := b.aim(a)
	if e != api.OK {
		return e
	}
	poured := []api.Parcel{{Label: a.Label, Volume: a.Volume}}
	if e := fluid.Check(poured); e != api.OK {
		return e
	}
	full, e := together(b.wells[a.Place], poured, most)
	if e != api.OK {
		return e
	}
	b.keep(a.Place, full)
	return api.OK
}

func (b *bench) tip(api.Action) api.Errno {
	if b.state.Tip {
		return api.ErrTip
	}
	if b.state.Used >= b.tips {
		return api.ErrEnd
	}
	b.state.Tip = true
	b.state.Used++
	return api.OK
}

func (b *bench) drop(api.Action) api.Errno {
	if !b.state.Tip {
		return api.ErrTip
	}
	b.state.Tip, b.state.Held, b.state.Touched = false, nil, nil
	return api.OK
}

func (b *bench) draw(a api.Action) api.Errno {
	if _, e := b.aim(a); e != api.OK {
		return e
	}
	if !b.state.Tip {
		return api.ErrTip
	}
	was := b.wells[a.Place]
	taken, left, e := fluid.Draw(was, a.Volume)
	if e != api.OK {
		return e
	}
	if clean, _ := fluid.Within(drops(b.state.Touched), was); !clean {
		return api.ErrDirty
	}
	held, e := together(b.state.Held, taken, b.tipMost)
	if e != api.OK {
		return e
	}
	b.keep(a.Place, left)
	// The well has all labels that were touched, so its own are all of them, and no more than its parcels.
	b.state.Held, b.state.Touched = held, labelsOf(was)
	return api.OK
}

func (b *bench) put(a api.Action) api.Errno {
	most, e := b.aim(a)
	if e != api.OK {
		return e
	}
	if !b.state.Tip {
		return api.ErrTip
	}
	given, left, e := fluid.Draw(b.state.Held, a.Volume)
	if e != api.OK {
		return e
	}
	full, e := together(b.wells[a.Place], given, most)
	if e != api.OK {
		return e
	}
	b.keep(a.Place, full)
	b.state.Held = left
	return api.OK
}

func (b *bench) warm(a api.Action) api.Errno {
	if !within(0, a.Value, api.MaxVolume) {
		return api.ErrRange
	}
	b.state.Heat = a.Value
	return api.OK
}

// pass: time does.
func (b *bench) pass(a api.Action) api.Errno {
	if !within(0, a.Time, api.MaxVolume) {
		return api.ErrRange
	}
	if b.state.Clock+a.Time > api.MaxTime {
		return api.ErrSize
	}
	b.state.Clock += a.Time
	return api.OK
}

func (b *bench) shake(a api.Action) api.Errno {
	if !within(0, a.Value, api.MaxVolume) {
		return api.ErrRange
	}
	return b.pass(a)
}

// aim at the well of an action with a volume: how much the well holds.
func (b *bench) aim(a api.Action) (int, api.Errno) {
	most, e := b.wellMost(a.Place)
	if e == api.OK && !within(1, a.Volume, api.MaxVolume) {
		e = api.ErrRange
	}
	return most, e
}

// keep what a well has from now on.
func (b *bench) keep(p api.Place, f []api.Parcel) {
	if len(f) == 0 {
		delete(b.wells, p)
		return
	}
	b.wells[p] = f
}

// together: a fluid, and another one behind it, in something that holds so much.
func together(f, g []api.Parcel, most int) ([]api.Parcel, api.Errno) {
	if total(f)+total(g) > most {
		return nil, api.ErrFull
	}
	return fluid.Put(f, g)
}

// labelsOf a fluid in plain form, rising.
func labelsOf(f []api.Parcel) []string {
	sorted, _ := fluid.Sorted(f) // no error comes: the fluid may be
	var l []string
	for _, p := range sorted {
		l = append(l, p.Label)
	}
	return l
}
