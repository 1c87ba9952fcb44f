package firm_test

import (
	"slices"
	"testing"

	"workcell/api"
)

// The chapter's example.
func TestExample(t *testing.T) {
	runs(t, even(), []api.Command{to(1, 1, 1)}, api.Firm{}, 0, api.ErrOrder)
	refuses(t, even(), api.Firm{}, to(0, 0, 0), api.ErrOrder)
}

// P18.3: commands, one behind the other.
func TestRun(t *testing.T) {
	l := []api.Command{home(), to(10, 0, 0), grab(), plug(1500), to(10, 0, -5), plug(0), cook(300), turn(60), rest(20), turn(0), eject(), home()}
	for i, want := range []api.Firm{
		{},
		{Homed: true, Ticks: 600},
		{Homed: true, At: at(10, 0, 0), Ticks: 650},
		{Homed: true, At: at(10, 0, 0), Tip: true, Ticks: 650},
		{Homed: true, At: at(10, 0, 0), Tip: true, Plug: 1500, Ticks: 652},
		{Homed: true, At: at(10, 0, -5), Tip: true, Plug: 1500, Ticks: 682},
		{Homed: true, At: at(10, 0, -5), Tip: true, Ticks: 684},
		{Homed: true, At: at(10, 0, -5), Tip: true, Heat: 300, Ticks: 684},
		{Homed: true, At: at(10, 0, -5), Tip: true, Heat: 300, Turns: 60, Ticks: 684},
		{Homed: true, At: at(10, 0, -5), Tip: true, Heat: 300, Turns: 60, Ticks: 704},
		{Homed: true, At: at(10, 0, -5), Tip: true, Heat: 300, Ticks: 704},
		{Homed: true, At: at(10, 0, -5), Heat: 300, Ticks: 704},
		{Homed: true, Heat: 300, Ticks: 754},
	} {
		runs(t, even(), l[:i], want, i, api.OK)
		// What is refused there leaves the state as it is ahead of it, and nothing behind it is done.
		bad := append(slices.Clone(l[:i]), to(101, 0, 0), home(), cook(9))
		runs(t, even(), bad, want, i, map[bool]api.Errno{true: api.ErrBlocked, false: api.ErrOrder}[want.Homed])
		bad[i] = api.Command{Kind: 9}
		runs(t, even(), bad, want, i, api.ErrKind)
	}
}

// P18.3: the first of several that are refused.
func TestRunRefused(t *testing.T) {
	at0 := homed(api.Point{}, false, 0, 600)
	runs(t, even(), []api.Command{grab(), home()}, api.Firm{}, 0, api.ErrOrder)
	runs(t, even(), []api.Command{home(), eject(), {}}, at0, 1, api.ErrTip)
	runs(t, even(), []api.Command{home(), plug(1), to(101, 0, 0)}, at0, 1, api.ErrTip)
	runs(t, even(), []api.Command{home(), {Kind: api.Go, Value: 3}, eject()}, at0, 1, api.ErrForm)
	runs(t, even(), []api.Command{home(), to(0, 0, far+1)}, at0, 1, api.ErrRange)
	at0.Tip = true
	runs(t, even(), []api.Command{home(), grab(), grab()}, at0, 2, api.ErrTip)
	runs(t, even(), []api.Command{home(), grab(), plug(5001)}, at0, 2, api.ErrFull)
}

// P18.3: many commands, there and back by ways of all lengths; the list stays as it is, its spare room too.
func TestRunOfMany(t *testing.T) {
	r := with(func(r *api.Rig) { r.High, r.Ramp, r.PerStep = at(far, far, far), of(1000, 100, 100, 0), 1 })
	l := make([]api.Command, 0, 100001)
	l = append(l, home())
	ticks, last := (far+30)*10, 0
	for i := range 60000 {
		x := i * 163 % far
		ticks += max(x-last, last-x) * 10
		l, last = append(l, to(x, 0, 0)), x
	}
	kept := slices.Clone(l[:cap(l)])
	runs(t, r, l, homed(at(last, 0, 0), false, 0, ticks), len(l), api.OK)
	if !slices.Equal(l[:cap(l)], kept) {
		t.Error("the list has changed")
	}
}
