package cell_test

import (
	"math"
	"testing"

	"workcell/api"
	"workcell/cell"
)

// P20.1: no actions, on any deck.
func TestCompileNothing(t *testing.T) {
	for _, d := range [][]api.Seat{nil, {}, table(), without(api.Trash), full()} {
		compiles(t, d, nil)
		compiles(t, d, []api.Action{})
	}
}

// P20.1: what each kind of action becomes.
func TestCompileKinds(t *testing.T) {
	for _, d := range [][]api.Seat{nil, table()} {
		compiles(t, d, []api.Action{warm(310150)}, cook(310150))
		compiles(t, d, []api.Action{warm(0), warm(api.MaxVolume)}, cook(0), cook(api.MaxVolume))
		compiles(t, d, []api.Action{timed(api.Hold, 7), timed(api.Wait, 8)}, rest(7), rest(8))
		compiles(t, d, []api.Action{timed(api.Hold, 0), timed(api.Wait, 0)})
		compiles(t, d, []api.Action{timed(api.Hold, 1), timed(api.Wait, api.MaxTime-1)}, rest(1), rest(api.MaxTime-1))
		compiles(t, d, []api.Action{shake(300, 9)}, turn(300), rest(9), turn(0))
		compiles(t, d, []api.Action{shake(300, 0), shake(0, 5), shake(0, 0)}, turn(300), turn(0), turn(0), rest(5), turn(0), turn(0), turn(0))
		compiles(t, d, []api.Action{shake(api.MaxVolume, api.MaxTime)}, turn(api.MaxVolume), rest(api.MaxTime), turn(0))
	}
	compiles(t, table(), []api.Action{fill(pA1, "a", 5), fill(qA1, "b", 30)})
	compiles(t, table(), []api.Action{tip}, work(points[0], grab()))
	compiles(t, table(), []api.Action{tip, drop}, work(points[0], grab()), work(trashT, eject()))
}

// P20.1: what an action's kind has no use for tells nothing.
func TestCompileNoUse(t *testing.T) {
	spare := api.Action{Place: qA1, Label: "?", Volume: -5, Value: -6, Time: -7}
	as := func(kind int, change func(*api.Action)) api.Action {
		a := spare
		a.Kind = kind
		change(&a)
		return a
	}
	none := func(*api.Action) {}
	compiles(t, table(), []api.Action{
		as(api.Fill, func(a *api.Action) { a.Label, a.Volume = "a", 9 }),
		as(api.Tip, none),
		as(api.Draw, func(a *api.Action) { a.Volume = 9 }),
		as(api.Put, func(a *api.Action) { a.Volume = 4 }),
		as(api.Drop, none),
		as(api.Warm, func(a *api.Action) { a.Value = 1 }),
		as(api.Hold, func(a *api.Action) { a.Time = 2 }),
		as(api.Wait, func(a *api.Action) { a.Time = 0 }),
		as(api.Shake, func(a *api.Action) { a.Value, a.Time = 3, 4 }),
	}, work(points[0], grab()), work(pointQ, plug(9)), work(pointQ, plug(5)), work(trashT, eject()), cook(1), rest(2), turn(3), rest(4), turn(0))
}

// P20.1: Plug with what the tip holds then, all volumes together.
func TestCompilePlug(t *testing.T) {
	compiles(t, table(), []api.Action{
		fill(pA1, "a", 3), fill(pA1, "b", 20), fill(pA1, "a", 50), tip, draw(pA1, 7), draw(pA1, 13), put(pA1, 5), put(qA1, 15), draw(pA1, 1), put(pB3, 1), drop,
	}, work(points[0], grab()), work(pointA1, plug(7)), work(pointA1, plug(20)), work(pointA1, plug(15)), work(pointQ, plug(0)),
		work(pointA1, plug(1)), work(pointB3, plug(0)), work(trashT, eject()))
	// What a tip held that was dropped, the next one does not hold.
	compiles(t, table(), []api.Action{fill(pA1, "a", 50), fill(pB1, "b", 50), tip, draw(pA1, 7), drop, tip, draw(pB1, 5), put(pA2, 2)},
		work(points[0], grab()), work(pointA1, plug(7)), work(trashT, eject()),
		work(points[1], grab()), work(pointB1, plug(5)), work(pointA2, plug(3)))
	vast := []api.Seat{seat(1, "p", api.Plate, 1, 2, api.MaxVolume), seat(2, "r", api.Rack, 1, 1, api.MaxVolume)}
	compiles(t, vast, []api.Action{fill(pA1, "a", api.MaxVolume), tip, draw(pA1, api.MaxVolume), put(pA2, api.MaxVolume-1)},
		work(at(137500+200, 20, 4000), grab()), work(at(100, 10, 4000), plug(api.MaxVolume)), work(at(1100, 10, 4000), plug(1)))
}

// P20.1: all tips, one behind the other, by slots, wherever seats stand in the list.
func TestCompileTips(t *testing.T) {
	var l []api.Action
	var want []any
	for _, p := range points {
		l = append(l, tip, drop)
		want = append(want, work(p, grab()), work(trashT, eject()))
	}
	compiles(t, table(), l, want...)
	refusesCompile(t, table(), append(l, tip), len(l), api.ErrEnd)
}

// P20.1: the first place of a trash, of the least slot.
func TestCompileTrash(t *testing.T) {
	d := table()
	compiles(t, d, []api.Action{tip, drop}, work(points[0], grab()), work(trashT, eject()))
	d[0].Slot, d[2].Slot = 11, 12
	compiles(t, d, []api.Action{tip, drop}, work(points[0], grab()), work(at(137500+1200, 286500+120, 4000), eject()))
	d = append(d, seat(2, "v", api.Trash, 2, 2, 0))
	compiles(t, d, []api.Action{tip, drop}, work(points[0], grab()), work(at(137500+200, 20, 4000), eject()))
}

// P20.1: a floor just as high as the machine stands, in the last slot's furthest corner.
func TestCompileHighest(t *testing.T) {
	r := seat(12, "r", api.Rack, 1, 1, 5)
	r.Ware = api.Ware{Name: "r", Kind: api.Rack, Rows: 1, Columns: 1, X: api.SlotWidth, Y: api.SlotLength, Width: api.SlotWidth, Length: api.SlotLength, Height: api.MaxWare, Capacity: 5}
	p := to(at(275000+api.SlotWidth, 286500+api.SlotLength, top))
	compiles(t, []api.Seat{r}, []api.Action{tip}, p, p, grab(), p)
}

// P20.1: what deck.Check says, ahead of all, with 0.
func TestCompileWrongDecks(t *testing.T) {
	for e, d := range wrongDecks() {
		for _, l := range [][]api.Action{nil, {tip}, {warm(1), drop}, {warm(1), warm(-1)}} {
			refusesCompile(t, d, l, 0, e)
		}
	}
}

// P20.1: mean.Run's error and its number.
func TestCompileMayNotBe(t *testing.T) {
	for _, c := range []struct {
		l []api.Action
		n int
		e api.Errno
	}{
		{[]api.Action{{}}, 0, api.ErrKind},
		{[]api.Action{warm(1), {Kind: math.MinInt}}, 1, api.ErrKind},
		{[]api.Action{drop}, 0, api.ErrTip},
		{[]api.Action{tip, tip}, 1, api.ErrTip},
		{[]api.Action{draw(pA1, 1)}, 0, api.ErrTip},
		{[]api.Action{tip, draw(pA1, 1)}, 1, api.ErrDry},
		{[]api.Action{tip, fill(pA1, "a", 100), draw(pA1, 20), draw(pA1, 1)}, 3, api.ErrFull},
		{[]api.Action{fill(pA1, "a", 9), fill(pB1, "b", 9), tip, draw(pA1, 1), draw(pB1, 1)}, 4, api.ErrDirty},
		{[]api.Action{fill(place(7, 0, 0), "a", 9)}, 0, api.ErrKind},
		{[]api.Action{fill(place(2, 0, 0), "a", 9)}, 0, api.ErrNone},
		{[]api.Action{warm(1), fill(pA1, "A", 9)}, 1, api.ErrName},
		{[]api.Action{warm(1), warm(2), warm(-1)}, 2, api.ErrRange},
		{[]api.Action{shake(math.MaxInt, 0)}, 0, api.ErrRange},
		{[]api.Action{timed(api.Wait, api.MaxTime), timed(api.Hold, 1)}, 1, api.ErrSize},
	} {
		refusesCompile(t, table(), c.l, c.n, c.e)
	}
}

// P20.1: without a trash nothing can be dropped; what may not be at all is told ahead of that.
func TestCompileNoTrash(t *testing.T) {
	d := without(api.Trash)
	compiles(t, d, []api.Action{tip}, work(points[0], grab()))
	refusesCompile(t, d, []api.Action{tip, drop}, 1, api.ErrNone)
	refusesCompile(t, d, []api.Action{warm(1), tip, timed(api.Wait, 0), drop, tip, drop}, 3, api.ErrNone)
	refusesCompile(t, d, []api.Action{tip, drop, drop}, 2, api.ErrTip)
	refusesCompile(t, d, []api.Action{tip, drop, warm(1), warm(-1)}, 3, api.ErrRange)
	refusesCompile(t, d, []api.Action{drop}, 0, api.ErrTip)
}

// The document's example of the whole: home, up, across just high above the deck; the tip is used.
func TestWhole(t *testing.T) {
	d := withTips(25)
	compiles(t, d, []api.Action{fill(pA1, "a", 90), tip, draw(pA1, 25), put(qA1, 25), drop},
		work(points[0], grab()), work(pointA1, plug(25)), work(pointQ, plug(0)), work(trashT, eject()))
	l, n, e := cell.Compile(nil, nil)
	if len(l) != 2 || l[0] != home() || l[1] != to(at(0, 0, 200000)) || n != 0 || e != api.OK {
		t.Error(l, n, e)
	}
}
