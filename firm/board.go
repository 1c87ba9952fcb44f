package firm

import (
	"workcell/api"
	"workcell/code"
	"workcell/ramp"
)

const (
	changePerTick = 1000 // how far the plunger goes in one
	restPerSecond = 1000 // milliseconds
)

// board of the machine: its rig, and what it knows of itself. It always is one that may be.
type board struct {
	api.Rig
	api.Firm
	totals map[int]int // of runs that were made already, by their steps: commands come again and again by the same ways
}

// newBoard of a rig and a state, if they may be.
func newBoard(r api.Rig, f api.Firm) (board, error) {
	if !isRig(r) {
		return board{}, errNoRig
	}
	b := board{Rig: r, Firm: f, totals: map[int]int{}}
	if !b.mayBe() {
		return board{}, errNoState
	}
	return b, nil
}

// mayBe: is the state one of the rig's?
func (b *board) mayBe() bool {
	isThere := isWithin(b.Rig, b.At) && (b.Homed || b.At == api.Point{})
	isOn := isFrom(0, b.Plug, b.Most) && isFrom(0, b.Heat, api.MaxVolume) && isFrom(0, b.Turns, api.MaxVolume)
	return isThere && isOn && isFrom(0, b.Ticks, api.MaxTicks)
}

// do a command: all of it, or with an error nothing.
func (b *board) do(c api.Command) api.Errno {
	if e := code.Check(c); e != api.OK {
		return e
	}
	ahead := b.Firm
	err := b.obey(c)
	if err != nil {
		b.Firm = ahead
	}
	return numberOf(err)
}

// obey a command that has its form. With an error something of it may be done.
func (b *board) obey(c api.Command) error {
	switch c.Kind {
	case api.Home:
		return b.home()
	case api.Go:
		return b.goTo(api.Point{X: c.X, Y: c.Y, Z: c.Z})
	case api.Plug:
		return b.press(c.Value)
	case api.Grab:
		return b.grab()
	case api.Eject:
		return b.eject()
	case api.Cook:
		b.Heat = c.Value
	case api.Rest:
		return b.pass(upBy(c.Value*b.Ramp.Clock, restPerSecond))
	case api.Turn:
		b.Turns = c.Value
	}
	return nil
}

// home to 0, 0, 0. A machine that is not homed may be anywhere, so that it takes as long as the longest way of all.
func (b *board) home() error {
	from, to := b.At, api.Point{}
	if !b.Homed {
		from, to = b.High, b.Low
	}
	ticks, err := b.need(from, to)
	if err != nil {
		return err
	}
	b.Homed, b.At = true, api.Point{}
	return b.pass(ticks)
}

// goTo a place.
func (b *board) goTo(place api.Point) error {
	if !b.Homed {
		return errNotHomed
	}
	ticks, err := b.need(b.At, place)
	if err != nil {
		return err
	}
	b.At = place
	return b.pass(ticks)
}

// press the plunger to a value.
func (b *board) press(value int) error {
	switch {
	case !b.Homed:
		return errNotHomed
	case !b.Tip:
		return errNoTip
	case value > b.Most:
		return errTooFar
	}
	ticks := upBy(change(b.Plug, value), changePerTick)
	b.Plug = value
	return b.pass(ticks)
}

// grab a tip.
func (b *board) grab() error {
	switch {
	case !b.Homed:
		return errNotHomed
	case b.Tip:
		return errTipThere
	}
	b.Tip, b.Plug = true, 0
	return nil
}

// eject the tip.
func (b *board) eject() error {
	switch {
	case !b.Homed:
		return errNotHomed
	case !b.Tip:
		return errNoTip
	}
	b.Tip, b.Plug = false, 0
	return nil
}

// pass so many ticks more.
func (b *board) pass(ticks int) error {
	if ticks > api.MaxTicks-b.Ticks {
		return errTooLate
	}
	b.Ticks += ticks
	return nil
}

// need: how many ticks a move takes, run by run.
func (b *board) need(from, to api.Point) (int, error) {
	if !isWithin(b.Rig, from) || !isWithin(b.Rig, to) {
		return 0, errOutside
	}
	ticks := 0
	for steps := upBy(greatestChange(from, to), b.PerStep); steps > 0; steps -= api.MaxRamp {
		ticks += b.total(min(steps, api.MaxRamp))
	}
	return ticks, nil
}

// total of ticks of a run.
func (b *board) total(steps int) int {
	ticks, isKnown := b.totals[steps]
	if !isKnown {
		ticks, _ = ramp.Total(b.Ramp, steps) // the ramp may be, and the steps are no more than it may have
		b.totals[steps] = ticks
	}
	return ticks
}
