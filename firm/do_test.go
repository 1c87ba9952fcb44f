package firm_test

import (
	"testing"

	"workcell/api"
	"workcell/firm"
)

// P18.2: what code.Check says, ahead of what stands against a command by its kind.
func TestWrongCommands(t *testing.T) {
	for c, want := range map[api.Command]api.Errno{
		{}:                                 api.ErrKind,
		{Kind: -1}:                         api.ErrKind,
		{Kind: 9}:                          api.ErrKind,
		{Kind: least, X: most}:             api.ErrKind,
		to(far+1, 0, 0):                    api.ErrRange,
		to(0, -far-1, 0):                   api.ErrRange,
		to(0, 0, most):                     api.ErrRange,
		plug(-1):                           api.ErrRange,
		plug(much + 1):                     api.ErrRange,
		cook(-1):                           api.ErrRange,
		rest(much + 1):                     api.ErrRange,
		turn(least):                        api.ErrRange,
		{Kind: api.Home, X: 1}:             api.ErrForm,
		{Kind: api.Go, Value: 1}:           api.ErrForm,
		{Kind: api.Plug, Z: 1}:             api.ErrForm,
		{Kind: api.Grab, Value: 1}:         api.ErrForm,
		{Kind: api.Eject, Y: 1}:            api.ErrForm,
		{Kind: api.Rest, X: -1, Value: 10}: api.ErrForm,
	} {
		for _, f := range []api.Firm{{}, {Tip: true}, homed(at(1, 2, 3), true, 4, 5), homed(at(0, 0, 0), false, 0, late)} {
			refuses(t, even(), f, c, want)
		}
		runs(t, even(), []api.Command{cook(3), c, home()}, api.Firm{Heat: 3}, 1, want)
	}
}

// P18.2: Home, from where it is; not homed: from High to Low.
func TestHome(t *testing.T) {
	does(t, even(), api.Firm{}, home(), homed(at(0, 0, 0), false, 0, 600))
	does(t, even(), api.Firm{Ticks: 7, Tip: true, Plug: 3, Heat: 4, Turns: 5}, home(), api.Firm{Homed: true, Ticks: 607, Tip: true, Plug: 3, Heat: 4, Turns: 5})
	does(t, even(), homed(at(0, 0, 0), true, 9, 8), home(), homed(at(0, 0, 0), true, 9, 8))
	does(t, even(), homed(at(100, 90, 40), true, 9, 8), home(), homed(at(0, 0, 0), true, 9, 508))
	does(t, even(), homed(at(-20, -29, -5), false, 0, 0), home(), homed(at(0, 0, 0), false, 0, 150))
	does(t, even(), api.Firm{Homed: true, At: at(1, 0, 0), Heat: 4, Turns: 5}, home(), api.Firm{Homed: true, Heat: 4, Turns: 5, Ticks: 10})
	wide := with(func(r *api.Rig) { r.Low, r.High = at(-7, 0, -8), at(0, 0, 3) })
	does(t, wide, api.Firm{}, home(), homed(at(0, 0, 0), false, 0, 60))
	point := with(func(r *api.Rig) { r.Low, r.High = api.Point{}, api.Point{} })
	does(t, point, api.Firm{}, home(), homed(at(0, 0, 0), false, 0, 0))
}

// P18.2: Go: not homed, a place without, there.
func TestGo(t *testing.T) {
	for _, c := range []api.Command{to(0, 0, 0), to(5, 5, 5), to(101, 0, 0), to(far, far, far)} {
		refuses(t, even(), api.Firm{}, c, api.ErrOrder)
		refuses(t, even(), api.Firm{Tip: true, Ticks: late}, c, api.ErrOrder)
	}
	for _, c := range []api.Command{to(-21, 0, 0), to(101, 0, 0), to(0, -31, 0), to(0, 91, 0), to(0, 0, -6), to(0, 0, 41), to(far, -far, far)} {
		refuses(t, even(), homed(at(0, 0, 0), false, 0, 0), c, api.ErrBlocked)
		refuses(t, even(), homed(at(9, 9, 9), true, 5, late), c, api.ErrBlocked)
	}
	does(t, even(), homed(at(0, 0, 0), false, 0, 0), to(0, 0, 0), homed(at(0, 0, 0), false, 0, 0))
	does(t, even(), homed(at(0, 0, 0), true, 6, 5), to(1, -2, 3), homed(at(1, -2, 3), true, 6, 25))
	does(t, even(), homed(at(0, 0, 0), true, 6, 5), to(-20, -30, -5), homed(at(-20, -30, -5), true, 6, 155))
	does(t, even(), homed(at(-20, -30, -5), true, 6, 5), to(100, 90, 40), homed(at(100, 90, 40), true, 6, 605))
	does(t, even(), homed(at(8, 1, 1), false, 0, 0), to(9, 1, 1), homed(at(9, 1, 1), false, 0, 10))
	does(t, even(), api.Firm{Homed: true, Heat: 4, Turns: 5, Plug: 6}, to(0, 4, 0), api.Firm{Homed: true, At: at(0, 4, 0), Heat: 4, Turns: 5, Plug: 6, Ticks: 20})
}

// P18.2: Plug: not homed, no tip, too much; a tick for each 1000 of any sign, rounded up.
func TestPlug(t *testing.T) {
	for _, c := range []api.Command{plug(0), plug(5), plug(5001), plug(much)} {
		refuses(t, even(), api.Firm{}, c, api.ErrOrder)
		refuses(t, even(), api.Firm{Tip: true, Ticks: late}, c, api.ErrOrder)
		refuses(t, even(), homed(at(1, 1, 1), false, 0, 0), c, api.ErrTip)
		refuses(t, even(), homed(at(1, 1, 1), false, 7, late), c, api.ErrTip)
	}
	for _, c := range []api.Command{plug(5001), plug(much)} {
		refuses(t, even(), homed(at(1, 1, 1), true, 0, 0), c, api.ErrFull)
		refuses(t, even(), homed(at(1, 1, 1), true, 5000, late), c, api.ErrFull)
	}
	for _, c := range []struct{ from, to, ticks int }{
		{0, 0, 0}, {0, 1, 1}, {0, 999, 1}, {0, 1000, 1}, {0, 1001, 2}, {0, 2000, 2}, {0, 5000, 5}, {7, 7, 0}, {7, 8, 1}, {7, 1007, 1}, {7, 1008, 2},
		{5000, 5000, 0}, {5000, 4999, 1}, {5000, 4000, 1}, {5000, 3999, 2}, {5000, 0, 5}, {1001, 0, 2}, {1000, 0, 1},
	} {
		does(t, even(), homed(at(1, 2, 3), true, c.from, 50), plug(c.to), homed(at(1, 2, 3), true, c.to, 50+c.ticks))
	}
	great := with(func(r *api.Rig) { r.Most = much })
	does(t, great, homed(at(1, 2, 3), true, 0, 0), plug(much), homed(at(1, 2, 3), true, much, much/1000))
	does(t, great, homed(at(1, 2, 3), true, much, 0), plug(1), homed(at(1, 2, 3), true, 1, much/1000))
}

// P18.2: Grab and Eject: not homed, a tip or none; Plug is 0 behind them, and no tick passes.
func TestTips(t *testing.T) {
	for _, tip := range []bool{false, true} {
		refuses(t, even(), api.Firm{Tip: tip}, grab(), api.ErrOrder)
		refuses(t, even(), api.Firm{Tip: tip}, eject(), api.ErrOrder)
	}
	refuses(t, even(), homed(at(1, 2, 3), true, 4, 5), grab(), api.ErrTip)
	refuses(t, even(), homed(at(1, 2, 3), false, 4, 5), eject(), api.ErrTip)
	for _, ticks := range []int{0, 5, late} {
		for _, plug := range []int{0, 4, 5000} {
			does(t, even(), homed(at(1, 2, 3), false, plug, ticks), grab(), homed(at(1, 2, 3), true, 0, ticks))
			does(t, even(), homed(at(1, 2, 3), true, plug, ticks), eject(), homed(at(1, 2, 3), false, 0, ticks))
		}
	}
	all := api.Firm{Homed: true, At: at(1, 2, 3), Heat: 7, Turns: 8}
	with := all
	with.Tip = true
	does(t, even(), all, grab(), with)
	does(t, even(), with, eject(), all)
}

// P18.2: Cook, Turn and Rest need neither a home nor a tip.
func TestHeatTurnsRest(t *testing.T) {
	for _, f := range []api.Firm{{}, {Heat: 3, Turns: 4, Ticks: 5, Plug: 6, Tip: true}, homed(at(1, 2, 3), true, 4, 5), homed(at(1, 2, 3), false, 0, late)} {
		for _, value := range []int{0, 1, 17, much} {
			hot, round := f, f
			hot.Heat, round.Turns = value, value
			does(t, even(), f, cook(value), hot)
			does(t, even(), f, turn(value), round)
		}
	}
	for _, c := range []struct{ clock, value, ticks int }{
		{1000, 0, 0}, {1000, 1, 1}, {1000, 999, 999}, {1000, much, much},
		{1, 1, 1}, {1, 999, 1}, {1, 1000, 1}, {1, 1001, 2}, {1, much, much / 1000},
		{999, 1, 1}, {1001, 1, 2}, {1500, 1, 2}, {1500, 2, 3}, {1500, 3, 5}, {2000, 3, 6}, {7, 500, 4}, {1, 0, 0},
		{fast, 1, fast / 1000}, {fast - 1, 1, fast / 1000}, {fast, much, much / 1000 * fast},
	} {
		r := with(func(r *api.Rig) { r.Ramp = of(c.clock, 1, 1, 0) })
		does(t, r, api.Firm{}, rest(c.value), api.Firm{Ticks: c.ticks})
		if c.ticks <= late/2 {
			does(t, r, homed(at(1, 2, 3), true, 4, 5), rest(c.value), homed(at(1, 2, 3), true, 4, 5+c.ticks))
		}
	}
}

// P18.2: ticks at MaxTicks, and one above, of all commands that take some; no other error is behind it.
func TestTooLate(t *testing.T) {
	for _, c := range []struct {
		f     api.Firm
		c     api.Command
		ticks int
	}{
		{api.Firm{}, home(), 600},
		{homed(at(0, 9, 0), true, 0, 0), home(), 50},
		{homed(at(0, 9, 0), true, 0, 0), to(0, 8, 0), 10},
		{homed(at(0, 9, 0), true, 0, 0), to(100, 9, 0), 500},
		{homed(at(0, 9, 0), true, 10, 0), plug(9), 1},
		{homed(at(0, 9, 0), true, 0, 0), plug(5000), 5},
		{api.Firm{}, rest(1), 1},
		{api.Firm{Tip: true}, rest(much), much},
	} {
		f := c.f
		f.Ticks = late - c.ticks
		if got, e := firm.Do(even(), f, c.c); got.Ticks != late || e != api.OK {
			t.Errorf("Do(%v, %v): %v, %v", f, c.c, got, e)
		}
		f.Ticks++
		refuses(t, even(), f, c.c, api.ErrSize)
		f.Ticks = late
		refuses(t, even(), f, c.c, api.ErrSize)
	}
	for _, c := range []api.Command{home(), to(0, 9, 0), plug(7), rest(0)} { // they take no time
		f := homed(at(0, 9, 0), true, 7, late)
		if c == home() {
			f.At = api.Point{}
		}
		does(t, even(), f, c, f)
	}
	slow := api.Rig{Low: at(-far, -far, -far), High: at(far, far, far), Ramp: of(fast, 1, 1, 0), PerStep: 1, Most: 1}
	refuses(t, slow, api.Firm{}, home(), api.ErrSize)
	does(t, slow, homed(slow.Low, false, 0, 0), to(0, 0, 0), homed(at(0, 0, 0), false, 0, late))
	refuses(t, slow, homed(slow.Low, false, 0, 0), to(1, 0, 0), api.ErrSize)
	runs(t, slow, []api.Command{cook(5), home(), cook(6)}, api.Firm{Heat: 5}, 1, api.ErrSize)
}
