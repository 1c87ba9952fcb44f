package cell_test

import (
	"testing"

	"workcell/api"
	"workcell/cell"
	"workcell/firm"
	"workcell/ramp"
)

// rigOf: the one of the chapter, with such tips.
func rigOf(most int) api.Rig {
	return api.Rig{
		Low: at(0, 0, 0), High: at(1000000, 1000000, 200000),
		Ramp:    api.Ramp{Clock: 1000000, First: 1000, Most: 100000, Rise: 100},
		PerStep: 10, Most: most,
	}
}

// P20.3: the tips' capacity: of the rack in the least slot; 1 without racks.
func TestRig(t *testing.T) {
	one := func(capacity int) []api.Seat { return []api.Seat{seat(3, "x", api.Rack, 1, 1, capacity)} }
	for _, c := range []struct {
		d    []api.Seat
		most int
	}{
		{nil, 1}, {[]api.Seat{}, 1}, {without(api.Rack), 1}, {table(), 20}, {withTips(2000), 2000}, {full(), 1000},
		{one(1), 1}, {one(2), 2}, {one(api.MaxVolume), api.MaxVolume}, {append(one(7), table()...), 7}, {append(table(), one(7)...), 7},
	} {
		got, e := cell.Rig(c.d)
		if got != rigOf(c.most) || e != api.OK {
			t.Errorf("Rig(%v): %v, %v; wanted %d", c.d, got, e, c.most)
		}
		if _, e := firm.Start(got); e != api.OK {
			t.Errorf("Rig(%v): %v is none: %v", c.d, got, e)
		}
	}
}

// P20.3: what deck.Check says.
func TestRigWrongDecks(t *testing.T) {
	for e, d := range wrongDecks() {
		if r, got := cell.Rig(d); r != (api.Rig{}) || got != e {
			t.Errorf("Rig(%v): %v, %v; wanted %v", d, r, got, e)
		}
	}
}

// run of steps of such a rig: its ticks.
func run(t *testing.T, steps int) int {
	t.Helper()
	n, e := ramp.Total(rigOf(1).Ramp, steps)
	if e != api.OK {
		t.Fatal(steps, e)
	}
	return n
}

// ticked: do actions take so many ticks?
func ticked(t *testing.T, d []api.Seat, want int, l ...api.Action) {
	t.Helper()
	if n, e := cell.Ticks(d, l); n != want || e != api.OK {
		t.Errorf("Ticks(%v): %d, %v; wanted %d", l, n, e, want)
	}
}

// P20.3: home from as far as can be, 100000 steps, and up, 20000; then what each command takes.
func TestTicks(t *testing.T) {
	first := 6 * run(t, 20000)
	ticked(t, nil, first)
	ticked(t, table(), first)
	ticked(t, nil, first+7000, timed(api.Wait, 7))
	ticked(t, nil, first+7000+8000+9000, timed(api.Hold, 7), timed(api.Wait, 8), shake(300, 9))
	ticked(t, nil, first, timed(api.Hold, 0), warm(5), shake(300, 0))
	ticked(t, nil, first+1000*api.MaxTime, timed(api.Wait, api.MaxTime))
	ticked(t, table(), first, fill(pA1, "a", 5))
	// To the first tip across 191070, down and up 196000.
	tipped := first + run(t, 19107) + 2*run(t, 19600)
	ticked(t, table(), tipped, tip)
	// To the first well across 191070 again, down and up 200000, and the plunger, which goes 1000 a tick.
	ticked(t, table(), tipped+run(t, 19107)+2*run(t, 20000)+1, fill(pA1, "a", 20), tip, draw(pA1, 20))
	big := withTips(api.MaxVolume)
	big[5].Ware.Capacity = api.MaxVolume
	ticked(t, big, tipped+run(t, 19107)+2*run(t, 20000)+1000000, fill(pA1, "a", api.MaxVolume), tip, draw(pA1, api.MaxVolume))
	ticked(t, big, tipped+run(t, 19107)+6*run(t, 20000)+3+1+2, fill(pA1, "a", 5000), tip, draw(pA1, 2001), draw(pA1, 1000), put(pA1, 1500))
}

// P20.3: no trash, and actions that may not be: Compile's errors (others are told where Compile's are).
func TestTicksRefused(t *testing.T) {
	for _, c := range []struct {
		d []api.Seat
		l []api.Action
		e api.Errno
	}{
		{without(api.Trash), []api.Action{tip, drop}, api.ErrNone},
		{table(), []api.Action{tip, tip}, api.ErrTip},
		{nil, []api.Action{tip}, api.ErrEnd},
		{nil, []api.Action{warm(1), warm(-1)}, api.ErrRange},
		{make([]api.Seat, 13), nil, api.ErrCount},
	} {
		if n, e := cell.Ticks(c.d, c.l); n != 0 || e != c.e {
			t.Errorf("Ticks(%v): %d, %v; wanted %v", c.l, n, e, c.e)
		}
	}
}
