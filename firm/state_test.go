package firm_test

import (
	"testing"

	"workcell/api"
	"workcell/firm"
)

// P18.1: what is no rig is refused by all calls, ahead of all else.
func TestWrongRigs(t *testing.T) {
	for _, r := range wrongRigs() {
		if f, e := firm.Start(r); f != (api.Firm{}) || e != api.ErrRange {
			t.Errorf("Start(%v): %v, %v", r, f, e)
		}
		for _, f := range []api.Firm{{}, homed(api.Point{}, true, 1, 1), {Ticks: -1}} {
			if firm.May(r, f) {
				t.Errorf("May(%v, %v)", r, f)
			}
			for _, c := range []api.Command{home(), to(0, 0, 0), grab(), {}, {Kind: 9}, {Kind: api.Go, X: far + 1}} {
				refuses(t, r, f, c, api.ErrRange)
			}
		}
		for _, l := range [][]api.Command{nil, {home()}, {grab()}, {{Kind: -1}}} {
			runs(t, r, l, api.Firm{}, 0, api.ErrRange)
		}
		for _, p := range []api.Point{{}, at(1, 2, 3), at(far+1, 0, 0), at(least, most, 0)} {
			for _, way := range [][2]api.Point{{p, {}}, {{}, p}} {
				if n, e := firm.Need(r, way[0], way[1]); n != 0 || e != api.ErrRange {
					t.Errorf("Need(%v, %v, %v): %d, %v", r, way[0], way[1], n, e)
				}
			}
		}
	}
}

// P18.1: a machine that starts: nothing is on, it is not homed, at 0, 0, 0.
func TestStart(t *testing.T) {
	for _, r := range edgeRigs() {
		if f, e := firm.Start(r); f != (api.Firm{}) || e != api.OK {
			t.Errorf("Start(%v): %v, %v", r, f, e)
		}
		if !firm.May(r, api.Firm{}) {
			t.Errorf("May(%v, start)", r)
		}
		runs(t, r, nil, api.Firm{}, 0, api.OK)
		runs(t, r, []api.Command{}, api.Firm{}, 0, api.OK)
	}
}

// P18.1: states that may be, and those that may not, each of them a number beyond one that may.
func TestMay(t *testing.T) {
	r := even()
	for _, f := range []api.Firm{
		{}, {Homed: true}, {Tip: true}, {Plug: 5000}, {Plug: 5000, Tip: true}, {Heat: much}, {Turns: much}, {Ticks: late},
		{Heat: 1, Turns: 2, Ticks: 3}, {Homed: true, At: r.Low}, {Homed: true, At: r.High}, {Homed: true, At: at(-20, 90, 0)},
		{Homed: true, At: r.High, Plug: 5000, Tip: true, Heat: much, Turns: much, Ticks: late},
	} {
		if !firm.May(r, f) {
			t.Errorf("not May(%v)", f)
		}
	}
	for _, f := range wrongStates() {
		if firm.May(r, f) {
			t.Errorf("May(%v)", f)
		}
	}
	small := with(func(r *api.Rig) { r.Most, r.Low, r.High = 1, api.Point{}, api.Point{} })
	if !firm.May(small, homed(at(0, 0, 0), true, 1, 0)) || firm.May(small, homed(at(0, 0, 0), true, 2, 0)) || firm.May(small, homed(at(0, 0, 1), true, 1, 0)) {
		t.Error("the least rig")
	}
}

// wrongStates of the even rig.
func wrongStates() []api.Firm {
	l := []api.Firm{
		{At: at(1, 0, 0)}, {At: at(0, -1, 0)}, {At: at(0, 0, 1)}, {At: at(1, 1, 1), Tip: true}, // not homed
		{Homed: true, At: at(-21, 0, 0)}, {Homed: true, At: at(101, 0, 0)}, {Homed: true, At: at(0, -31, 0)},
		{Homed: true, At: at(0, 91, 0)}, {Homed: true, At: at(0, 0, -6)}, {Homed: true, At: at(0, 0, 41)},
		{Homed: true, At: at(least, 0, 0)}, {Homed: true, At: at(0, most, 0)},
		{Plug: 5001}, {Plug: 5001, Tip: true}, {Plug: most}, {Heat: much + 1}, {Heat: most}, {Turns: much + 1}, {Turns: most}, {Ticks: late + 1}, {Ticks: most},
	}
	for _, n := range []int{-1, least} {
		l = append(l, api.Firm{Plug: n}, api.Firm{Heat: n}, api.Firm{Turns: n}, api.Firm{Ticks: n})
	}
	for _, f := range l[:len(l):len(l)] { // homed or not, if that is not what is wrong
		if f.At == (api.Point{}) {
			f.Homed = true
			l = append(l, f)
		}
	}
	return l
}

// P18.2: a state that may not be is told ahead of what is wrong with a command.
func TestWrongStates(t *testing.T) {
	for _, f := range wrongStates() {
		for _, c := range []api.Command{home(), to(1, 1, 1), to(500, 0, 0), plug(1), plug(much), grab(), eject(), cook(1), rest(1), turn(1), {}, {Kind: 9}, {Kind: api.Home, X: 1}, cook(-1)} {
			refuses(t, even(), f, c, api.ErrState)
		}
	}
}
