package cell_test

import (
	"math"
	"testing"

	"workcell/api"
)

// P20.2: what each kind of command makes known.
func TestWatchKinds(t *testing.T) {
	for _, d := range [][]api.Seat{nil, {}, table()} {
		watches(t, d, nil)
		watches(t, d, []api.Command{})
		watches(t, d, []api.Command{home(), to(at(1, -2, 3)), turn(300), turn(0), to(at(api.MaxPlace, -api.MaxPlace, 0)), home()})
		watches(t, d, []api.Command{cook(5), cook(0), cook(api.MaxVolume)}, warm(5), warm(0), warm(api.MaxVolume))
		watches(t, d, []api.Command{rest(5), rest(0), rest(api.MaxVolume)}, timed(api.Wait, 5), timed(api.Wait, 0), timed(api.Wait, api.MaxVolume))
	}
	for _, p := range points {
		watches(t, table(), []api.Command{to(p), grab()}, tip)
	}
	for _, p := range []api.Point{trashT, trashTB1, trashTA2, trashU} {
		watches(t, table(), []api.Command{to(p), eject()}, drop)
	}
	for place, p := range map[api.Place]api.Point{pA1: pointA1, pB1: pointB1, pA2: pointA2, pB3: pointB3, qA1: pointQ} {
		watches(t, table(), []api.Command{to(p), plug(5), plug(3)}, draw(place, 5), put(place, 2))
	}
}

// P20.2: no tip need be there, nor any be left: what commands make known need not be what may be.
func TestWatchAnything(t *testing.T) {
	watches(t, table(), []api.Command{to(points[5]), grab(), grab(), to(trashU), eject(), eject(), to(pointQ), plug(5000)}, tip, tip, drop, drop, draw(qA1, 5000))
}

// P20.2: Plug by what is more or less than the last one.
func TestWatchPlug(t *testing.T) {
	watches(t, table(), []api.Command{to(pointQ), plug(7), plug(20), plug(20), plug(15), to(pointB3), plug(15), plug(0), plug(0), plug(api.MaxVolume), plug(0)},
		draw(qA1, 7), draw(qA1, 13), put(qA1, 5), put(pB3, 15), draw(pB3, api.MaxVolume), put(pB3, api.MaxVolume))
	watches(t, table(), []api.Command{to(pointQ), plug(0)})
	// Behind Grab and Eject it is 0 again; Home, Cook, Rest and Turn leave it.
	watches(t, table(), []api.Command{to(pointQ), plug(7), to(points[0]), grab(), to(pointQ), plug(7)}, draw(qA1, 7), tip, draw(qA1, 7))
	watches(t, table(), []api.Command{to(pointQ), plug(7), to(trashT), eject(), to(pointQ), plug(0), plug(2)}, draw(qA1, 7), drop, draw(qA1, 2))
	watches(t, table(), []api.Command{to(pointQ), plug(7), home(), cook(1), rest(2), turn(3), to(pointQ), plug(6)}, draw(qA1, 7), warm(1), timed(api.Wait, 2), put(qA1, 1))
}

// P20.2: at first, and behind Home, the machine is at 0, 0, 0, where the table has a well.
func TestWatchWhere(t *testing.T) {
	watches(t, table(), []api.Command{plug(4)}, draw(pA1, 4))
	watches(t, table(), []api.Command{to(pointQ), plug(4), home(), plug(1)}, draw(qA1, 4), put(pA1, 3))
	watches(t, table(), []api.Command{to(pointQ), cook(1), rest(1), turn(1), plug(4), plug(5)}, warm(1), timed(api.Wait, 1), draw(qA1, 4), draw(qA1, 1))
	refusesWatch(t, without(api.Plate), []api.Command{to(pointQ), plug(4)}, 1, api.ErrNone)
	refusesWatch(t, without(api.Plate), []api.Command{plug(4)}, 0, api.ErrNone)
	tips := seat(1, "r", api.Rack, 1, 1, 1)
	tips.Ware.X, tips.Ware.Y, tips.Ware.Deep = 0, 0, tips.Ware.Height
	watches(t, []api.Seat{tips}, []api.Command{grab(), to(at(1, 0, 0)), home(), grab()}, tip, tip)
}

// P20.2: Grab, Eject and Plug stand at no such place: just beside one, above it, below it; at another ware's.
func TestWatchNoPlace(t *testing.T) {
	all := []api.Command{grab(), eject(), plug(0), plug(5)}
	for kind, p := range map[int]api.Point{api.Grab: points[0], api.Eject: trashT, api.Plug: pointQ} {
		for _, does := range all {
			if does.Kind != kind {
				refusesWatch(t, table(), []api.Command{home(), cook(5), to(p), does, home()}, 3, api.ErrNone)
			}
			for _, by := range []api.Point{at(1, 0, 0), at(-1, 0, 0), at(0, 1, 0), at(0, -1, 0), at(0, 0, 1), at(0, 0, -1), at(0, 0, top)} {
				refusesWatch(t, table(), []api.Command{to(at(p.X+by.X, p.Y+by.Y, p.Z+by.Z)), does}, 1, api.ErrNone)
			}
		}
	}
	for _, p := range []api.Point{at(0, 0, top), at(-1, 0, 0), at(api.MaxPlace, -api.MaxPlace, api.MaxPlace)} {
		for _, does := range all {
			refusesWatch(t, table(), []api.Command{to(p), does}, 1, api.ErrNone)
		}
	}
	for _, does := range []api.Command{grab(), eject(), plug(0), plug(1)} {
		refusesWatch(t, nil, []api.Command{does}, 0, api.ErrNone)
		refusesWatch(t, without(api.Plate), []api.Command{rest(1), does, does}, 1, api.ErrNone)
	}
	// By no more and no less, at no such place; and a place that was left by Home.
	refusesWatch(t, table(), []api.Command{to(pointQ), plug(5), to(points[0]), plug(5)}, 3, api.ErrNone)
	refusesWatch(t, table(), []api.Command{to(points[0]), grab(), home(), grab()}, 3, api.ErrNone)
	refusesWatch(t, table(), []api.Command{to(trashU), eject(), home(), eject()}, 3, api.ErrNone)
}

// P20.2: ErrForm for all that code.Check says, ahead of ErrNone.
func TestWatchWrongCommands(t *testing.T) {
	for _, c := range []api.Command{
		{}, {Kind: -1}, {Kind: 9}, {Kind: math.MinInt}, {Kind: math.MaxInt, X: 1},
		to(at(api.MaxPlace+1, 0, 0)), to(at(0, -api.MaxPlace-1, 0)), to(at(0, 0, math.MaxInt)), {Kind: api.Go, Value: 1},
		plug(-1), plug(api.MaxVolume + 1), cook(-1), rest(math.MinInt), turn(api.MaxVolume + 1),
		{Kind: api.Home, X: 1}, {Kind: api.Grab, Value: 1}, {Kind: api.Eject, Y: 1}, {Kind: api.Plug, Z: 1}, {Kind: api.Cook, X: -1}, {Kind: api.Rest, X: 1, Value: 1},
	} {
		for _, d := range [][]api.Seat{nil, table()} {
			refusesWatch(t, d, []api.Command{c}, 0, api.ErrForm)
			refusesWatch(t, d, []api.Command{home(), cook(1), c, {}, home()}, 2, api.ErrForm)
			refusesWatch(t, d, []api.Command{home(), to(at(5, 5, 5)), grab(), rest(1), c}, 4, api.ErrForm)
		}
	}
}

// P20.2: what deck.Check says, ahead of all, with 0.
func TestWatchWrongDecks(t *testing.T) {
	for e, d := range wrongDecks() {
		for _, l := range [][]api.Command{nil, {home(), grab()}, {home(), {}}, {to(pointQ), plug(1)}} {
			refusesWatch(t, d, l, 0, e)
		}
	}
}
