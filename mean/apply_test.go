package mean_test

import (
	"math"
	"strings"
	"testing"

	"workcell/api"
	"workcell/mean"
)

// step: an action on a deck with a state, and what comes of it.
type step struct {
	name string
	d    []api.Seat
	s    api.State
	a    api.Action
	want api.State
	e    api.Errno
}

// refused: a step that comes to nothing but an error.
func refused(name string, d []api.Seat, s api.State, a api.Action, e api.Errno) step {
	return step{name: name, d: d, s: s, a: a, e: e}
}

// apply all steps.
func apply(t *testing.T, steps []step) {
	t.Helper()
	for _, c := range steps {
		if !mean.May(c.d, c.s) {
			t.Errorf("%s: %v may not be", c.name, c.s)
		}
		got, e := mean.Apply(c.d, c.s, c.a)
		if !sameState(got, c.want) || e != c.e {
			t.Errorf("%s: %v %v, should be %v %v", c.name, got, e, c.want, c.e)
		}
		if e == api.OK && !mean.May(c.d, got) {
			t.Errorf("%s: %v may not be", c.name, got)
		}
	}
}

// TestApplyKind: kinds that are no action's (P11.2).
func TestApplyKind(t *testing.T) {
	actions := []int{api.Fill, api.Tip, api.Drop, api.Draw, api.Put, api.Warm, api.Hold, api.Shake, api.Wait}
	is := map[int]int{}
	for _, kind := range actions {
		is[kind]++
	}
	for _, kind := range []int{math.MinInt, -1, math.MaxInt, math.MaxInt32 + 1 + api.Warm} {
		apply(t, []step{refused("far", table(), busy(), api.Action{Kind: kind}, api.ErrKind)})
	}
	for kind := range 40 {
		_, e := mean.Apply(table(), wells(in(pA1, "a", 9)), api.Action{Kind: kind, Place: place(99, 0, 0), Volume: -1, Value: -1, Time: -1})
		if (e == api.ErrKind) != (is[kind] == 0) {
			t.Errorf("kind %d: %v", kind, e)
		}
	}
}

// TestApplyPlace: of Fill, Draw and Put alike: no such well, then no plate, then the volume, then all else (P11.2).
func TestApplyPlace(t *testing.T) {
	s := wells(in(pA1, "a", 5))
	var steps []step
	for _, kind := range []int{api.Fill, api.Draw, api.Put} {
		for _, p := range []api.Place{{}, place(-1, 0, 0), place(2, 0, 0), place(13, 0, 0), place(math.MaxInt, 0, 0), place(1, -1, 0), place(1, 2, 0), place(1, 0, -1), place(1, 0, 3), place(1, math.MinInt, math.MaxInt), place(7, 2, 0), place(12, 0, 1)} {
			steps = append(steps, refused("no well", table(), s, api.Action{Kind: kind, Place: p}, api.ErrNone))
		}
		for _, p := range []api.Place{place(7, 1, 1), place(8, 0, 0), place(12, 0, 0)} {
			steps = append(steps, refused("no plate", table(), s, api.Action{Kind: kind, Place: p}, api.ErrKind))
		}
		for _, v := range []int{0, -1, math.MinInt, api.MaxVolume + 1, math.MaxInt} {
			steps = append(steps, refused("volume", table(), s, api.Action{Kind: kind, Place: pA1, Volume: v}, api.ErrRange))
		}
	}
	steps = append(steps,
		refused("least", table(), s, draw(pA1, 1), api.ErrTip),
		refused("most", table(), s, draw(pA1, api.MaxVolume), api.ErrTip),
		refused("least", table(), s, put(pA1, 1), api.ErrTip),
		refused("most", table(), s, put(pA1, api.MaxVolume), api.ErrTip),
		refused("most", table(), s, fill(pA1, "a", api.MaxVolume), api.ErrFull))
	apply(t, steps)
}

// TestFill: a parcel behind what is there, and what does not go into a well (P11.2).
func TestFill(t *testing.T) {
	full := wells(api.Filled{Place: pA1, Fluid: striped(100)})
	more := wells(api.Filled{Place: pA1, Fluid: append(striped(99), pour("b", 101)...)})
	apply(t, []step{
		{"first", table(), api.State{}, fill(pA1, "a", 5), wells(in(pA1, "a", 5)), api.OK},
		{"behind", table(), wells(in(pA1, "a", 5)), fill(pA1, "b", 5), wells(in(pA1, "a", 5, "b", 5)), api.OK},
		{"behind", table(), wells(in(pA1, "b", 5)), fill(pA1, "a", 5), wells(in(pA1, "b", 5, "a", 5)), api.OK},
		{"alike", table(), wells(in(pA1, "a", 5, "b", 1)), fill(pA1, "b", 5), wells(in(pA1, "a", 5, "b", 6)), api.OK},
		{"a row", table(), wells(in(pA1, "a", 1), in(pA2, "a", 1)), fill(pB1, "b", 1), wells(in(pA1, "a", 1), in(pB1, "b", 1), in(pA2, "a", 1)), api.OK},
		{"last slot", table(), wells(in(pA1, "a", 1), in(pB3, "a", 1)), fill(qA1, "b", 30), wells(in(pA1, "a", 1), in(pB3, "a", 1), in(qA1, "b", 30)), api.OK},
		{"first slot", table(), wells(in(qA1, "b", 30)), fill(pB3, "a", 1), wells(in(pB3, "a", 1), in(qA1, "b", 30)), api.OK},
		{"all of it", table(), wells(in(pA1, "a", 199)), fill(pA1, "b", 1), wells(in(pA1, "a", 199, "b", 1)), api.OK},
		{"vast", vast(), api.State{}, fill(pA1, strings.Repeat("z", 16), api.MaxVolume), wells(in(pA1, strings.Repeat("z", 16), api.MaxVolume)), api.OK},
		{"100 parcels", table(), full, fill(pA1, "b", 100), more, api.OK},
		{"99 parcels", table(), wells(api.Filled{Place: pA1, Fluid: striped(99)}), fill(pA1, "b", 1), full, api.OK},
		refused("too much", table(), wells(in(pA1, "a", 199)), fill(pA1, "b", 2), api.ErrFull),
		refused("too much", table(), wells(in(pA1, "a", 199)), fill(pA1, "a", 2), api.ErrFull),
		refused("too much of q", table(), api.State{}, fill(qA1, "a", 31), api.ErrFull),
		refused("too vast", vast(), wells(in(pA1, "a", api.MaxVolume)), fill(pA1, "a", api.MaxVolume), api.ErrFull),
		refused("101 parcels", table(), full, fill(pA1, "a", 1), api.ErrCount),
		refused("101 parcels", table(), full, fill(pA1, "a", 100), api.ErrCount),
		refused("both", table(), full, fill(pA1, "a", 101), api.ErrFull),
		refused("no label", table(), full, fill(pA1, "", 101), api.ErrName),
		refused("no label", table(), full, fill(pA1, "A", 101), api.ErrName),
		refused("no label", table(), full, fill(pA1, "1a", 1), api.ErrName),
		refused("no label", table(), full, fill(pA1, "\xff", 1), api.ErrName),
		refused("no label", table(), full, fill(pA1, strings.Repeat("z", 17), 1), api.ErrName),
		refused("no volume", table(), full, fill(pA1, "", 0), api.ErrRange),
	})
	// A tip, what it holds, the heat and the clock stay, and what belongs to other kinds counts for nothing.
	s := busy()
	want := busy()
	want.Wells[2].Fluid = pour("a", 1, "x", 2)
	apply(t, []step{{"rest", table(), s, api.Action{Kind: api.Fill, Place: pA2, Label: "x", Volume: 2, Value: -1, Time: -1}, want, api.OK}})
}

// TestTipAndDrop: taken as long as there are some, of all racks; dropped with what it held (P11.2).
func TestTipAndDrop(t *testing.T) {
	dropped := busy()
	dropped.Tip, dropped.Held, dropped.Touched = false, nil, nil
	last := dropped
	last.Used = 5
	taken := dropped
	taken.Tip = true
	strange := api.Action{Place: place(99, -1, -1), Label: "?", Volume: -1, Value: -1, Time: -1}
	strangeTip, strangeDrop := strange, strange
	strangeTip.Kind, strangeDrop.Kind = api.Tip, api.Drop
	apply(t, []step{
		{"first", table(), api.State{}, tip, api.State{Tip: true, Used: 1}, api.OK},
		{"last", table(), last, tip, taken, api.OK},
		{"strange", table(), last, strangeTip, taken, api.OK},
		refused("none left", table(), dropped, tip, api.ErrEnd),
		refused("none there", withoutTips(), api.State{}, tip, api.ErrEnd),
		refused("none there", nil, api.State{}, tip, api.ErrEnd),
		refused("one already", table(), tipped(nil, nil), tip, api.ErrTip),
		refused("one already, none left", table(), busy(), tip, api.ErrTip),
		{"dropped", table(), busy(), drop, dropped, api.OK},
		{"dropped, empty", table(), tipped(nil, []string{"a"}), drop, api.State{Used: 1}, api.OK},
		{"strange", table(), busy(), strangeDrop, dropped, api.OK},
		refused("none to drop", table(), dropped, drop, api.ErrTip),
		refused("none to drop", nil, api.State{}, drop, api.ErrTip),
	})
}

// TestDraw: the first of a well behind what is held, and its labels touched (P11.2).
func TestDraw(t *testing.T) {
	ab := []string{"a", "b"}
	empty := tipped(nil, nil, in(pA1, "a", 5, "b", 5))
	apply(t, []step{
		{"the chapter's", table(), empty, draw(pA1, 7), tipped(pour("a", 5, "b", 2), ab, in(pA1, "b", 3)), api.OK},
		{"a part, all touched", table(), empty, draw(pA1, 1), tipped(pour("a", 1), ab, in(pA1, "a", 4, "b", 5)), api.OK},
		{"just one", table(), empty, draw(pA1, 5), tipped(pour("a", 5), ab, in(pA1, "b", 5)), api.OK},
		{"all of it", table(), empty, draw(pA1, 10), tipped(pour("a", 5, "b", 5), ab), api.OK},
		{"rising", table(), tipped(nil, nil, in(pA1, "b", 1, "a10", 1, "b", 1, "a9", 1, "aa", 1, "a", 1)), draw(pA1, 1), tipped(pour("b", 1), []string{"a", "a10", "a9", "aa", "b"}, in(pA1, "a10", 1, "b", 1, "a9", 1, "aa", 1, "a", 1)), api.OK},
		{"behind", table(), tipped(pour("b", 3), ab, in(pA1, "a", 5, "b", 5)), draw(pA1, 7), tipped(pour("b", 3, "a", 5, "b", 2), ab, in(pA1, "b", 3)), api.OK},
		{"alike", table(), tipped(pour("a", 3), []string{"a"}, in(pA1, "a", 5)), draw(pA1, 2), tipped(pour("a", 5), []string{"a"}, in(pA1, "a", 3)), api.OK},
		{"more touched", table(), tipped(nil, []string{"b"}, in(pA1, "c", 1, "b", 1, "a", 1)), draw(pA1, 1), tipped(pour("c", 1), []string{"a", "b", "c"}, in(pA1, "b", 1, "a", 1)), api.OK},
		{"a full tip", table(), tipped(pour("a", 5), []string{"a"}, in(pA1, "a", 50)), draw(pA1, 15), tipped(pour("a", 20), []string{"a"}, in(pA1, "a", 35)), api.OK},
		{"vast", vast(), tipped(nil, nil, in(pA1, "a", api.MaxVolume)), draw(pA1, api.MaxVolume), tipped(pour("a", api.MaxVolume), []string{"a"}), api.OK},
		{"100 labels", table(), tipped(nil, many(99), api.Filled{Place: pA1, Fluid: each(many(100))}), draw(pA1, 1), tipped(pour("aa", 1), many(100), api.Filled{Place: pA1, Fluid: each(many(100)[1:])}), api.OK},
		{"100 parcels", withTips(200), tipped(striped(100), ab, in(pA1, "b", 5, "a", 5)), draw(pA1, 5), tipped(append(striped(99), pour("b", 6)...), ab, in(pA1, "a", 5)), api.OK},
		{"99 parcels", withTips(200), tipped(striped(99), ab, in(pA1, "b", 5, "a", 5)), draw(pA1, 1), tipped(striped(100), ab, in(pA1, "b", 4, "a", 5)), api.OK},
		refused("no tip", table(), wells(in(pA1, "a", 5)), draw(pA1, 1), api.ErrTip),
		refused("no tip, dry", table(), wells(in(pA1, "a", 5)), draw(pA1, 6), api.ErrTip),
		refused("dry", table(), empty, draw(pA1, 11), api.ErrDry),
		refused("empty", table(), empty, draw(pA2, 1), api.ErrDry),
		refused("dry ahead of dirty", table(), tipped(nil, []string{"c"}, in(pA1, "a", 5)), draw(pA1, 6), api.ErrDry),
		refused("dirty", table(), tipped(nil, []string{"c"}, in(pA1, "a", 5)), draw(pA1, 5), api.ErrDirty),
		refused("dirty by one", table(), tipped(nil, []string{"a", "c"}, in(pA1, "a", 5, "b", 5)), draw(pA1, 5), api.ErrDirty),
		refused("dirty by its beginning", table(), tipped(nil, []string{"a"}, in(pA1, "a1", 5)), draw(pA1, 5), api.ErrDirty),
		refused("dirty ahead of full", table(), tipped(pour("c", 20), []string{"c"}, in(pA1, "a", 5)), draw(pA1, 5), api.ErrDirty),
		refused("full", table(), tipped(pour("a", 5), []string{"a"}, in(pA1, "a", 50)), draw(pA1, 16), api.ErrFull),
		refused("full of nothing else", table(), tipped(nil, nil, in(pA1, "a", 50)), draw(pA1, 21), api.ErrFull),
		refused("vast", vast(), tipped(pour("a", api.MaxVolume), []string{"a"}, in(pA1, "a", api.MaxVolume)), draw(pA1, api.MaxVolume), api.ErrFull),
		refused("full ahead of 101 parcels", withTips(100), tipped(striped(100), ab, in(pA1, "a", 5, "b", 5)), draw(pA1, 1), api.ErrFull),
		refused("101 parcels", withTips(101), tipped(striped(100), ab, in(pA1, "a", 5, "b", 5)), draw(pA1, 1), api.ErrCount),
		refused("many parcels", withTips(200), tipped(striped(100), ab, api.Filled{Place: pA1, Fluid: striped(100)}), draw(pA1, 100), api.ErrCount),
	})
}

// TestPut: the first of what is held behind what is there, in whatever well (P11.2).
func TestPut(t *testing.T) {
	ab := []string{"a", "b"}
	full := tipped(pour("a", 5, "b", 2), ab)
	stripes := api.Filled{Place: pA1, Fluid: striped(100)}
	apply(t, []step{
		{"a part", table(), full, put(pA1, 3), tipped(pour("a", 2, "b", 2), ab, in(pA1, "a", 3)), api.OK},
		{"two", table(), full, put(pA1, 6), tipped(pour("b", 1), ab, in(pA1, "a", 5, "b", 1)), api.OK},
		{"all of it", table(), full, put(pA1, 7), tipped(nil, ab, in(pA1, "a", 5, "b", 2)), api.OK},
		{"behind others", table(), tipped(pour("a", 5), ab, in(pA1, "c", 1)), put(pA1, 5), tipped(nil, ab, in(pA1, "c", 1, "a", 5)), api.OK},
		{"alike", table(), tipped(pour("a", 5), ab, in(pA1, "a", 1)), put(pA1, 4), tipped(pour("a", 1), ab, in(pA1, "a", 5)), api.OK},
		{"in between", table(), tipped(pour("a", 5), ab, in(pA1, "a", 1), in(pB3, "a", 1), in(qA1, "a", 1)), put(pA2, 5), tipped(nil, ab, in(pA1, "a", 1), in(pA2, "a", 5), in(pB3, "a", 1), in(qA1, "a", 1)), api.OK},
		{"a full well", table(), tipped(pour("a", 5), ab, in(qA1, "b", 25)), put(qA1, 5), tipped(nil, ab, in(qA1, "b", 25, "a", 5)), api.OK},
		{"100 parcels", table(), tipped(pour("b", 5), ab, stripes), put(pA1, 5), tipped(nil, ab, api.Filled{Place: pA1, Fluid: append(striped(99), pour("b", 6)...)}), api.OK},
		refused("no tip", table(), api.State{}, put(pA1, 1), api.ErrTip),
		refused("dry", table(), full, put(pA1, 8), api.ErrDry),
		refused("empty", table(), tipped(nil, ab, in(pA1, "a", 9)), put(pA1, 1), api.ErrDry),
		refused("dry ahead of full", table(), tipped(pour("a", 5), ab, in(qA1, "b", 30)), put(qA1, 6), api.ErrDry),
		refused("full", table(), tipped(pour("a", 5), ab, in(qA1, "b", 26)), put(qA1, 5), api.ErrFull),
		refused("full, alike", table(), tipped(pour("a", 5), ab, in(qA1, "a", 26)), put(qA1, 5), api.ErrFull),
		refused("101 parcels", table(), tipped(pour("a", 5), ab, stripes), put(pA1, 1), api.ErrCount),
		refused("102 parcels", table(), tipped(pour("b", 1, "a", 5, "b", 1), ab, stripes), put(pA1, 7), api.ErrCount),
		refused("full ahead of 101 parcels", withTips(200), tipped(pour("a", 101), ab, stripes), put(pA1, 101), api.ErrFull),
	})
}

// TestHeatAndClock: what is set, what passes, and the edges of both (P11.2).
func TestHeatAndClock(t *testing.T) {
	late := api.State{Clock: api.MaxTime - 5}
	steps := []step{
		{"warm", nil, late, warm(37), api.State{Heat: 37, Clock: api.MaxTime - 5}, api.OK},
		{"most", nil, api.State{Heat: 5}, warm(api.MaxVolume), api.State{Heat: api.MaxVolume}, api.OK},
		{"cold", nil, api.State{Heat: 5}, warm(0), api.State{}, api.OK},
		{"its time is nothing", nil, late, api.Action{Kind: api.Warm, Value: 1, Time: 99, Volume: -1}, api.State{Heat: 1, Clock: api.MaxTime - 5}, api.OK},
		refused("below", nil, late, warm(-1), api.ErrRange),
		refused("far below", nil, late, warm(math.MinInt), api.ErrRange),
		refused("above", nil, late, warm(api.MaxVolume+1), api.ErrRange),
		{"most turns", nil, api.State{}, shake(api.MaxVolume, 3), api.State{Clock: 3}, api.OK},
		{"no turns", nil, late, shake(0, 5), api.State{Clock: api.MaxTime}, api.OK},
		refused("turns below", nil, late, shake(-1, 6), api.ErrRange),
		refused("turns above", nil, late, shake(api.MaxVolume+1, 0), api.ErrRange),
		refused("turns far above", nil, late, shake(math.MaxInt, 0), api.ErrRange),
	}
	for _, kind := range []int{api.Hold, api.Wait, api.Shake} {
		lasts := func(time int) api.Action { return api.Action{Kind: kind, Time: time} }
		steps = append(steps,
			step{"some", nil, api.State{Heat: 5, Clock: 5}, lasts(3), api.State{Heat: 5, Clock: 8}, api.OK},
			step{"none", nil, late, lasts(0), late, api.OK},
			step{"to the end", nil, late, lasts(5), api.State{Clock: api.MaxTime}, api.OK},
			step{"all of it", nil, api.State{}, lasts(api.MaxTime), api.State{Clock: api.MaxTime}, api.OK},
			step{"at the end", nil, api.State{Clock: api.MaxTime}, lasts(0), api.State{Clock: api.MaxTime}, api.OK},
			refused("too late", nil, late, lasts(6), api.ErrSize),
			refused("far too late", nil, late, lasts(api.MaxVolume), api.ErrSize),
			refused("above", nil, late, lasts(api.MaxVolume+1), api.ErrRange),
			refused("far above", nil, late, lasts(math.MaxInt), api.ErrRange),
			refused("below", nil, late, lasts(-1), api.ErrRange),
			refused("far below", nil, late, lasts(math.MinInt), api.ErrRange))
	}
	for _, kind := range []int{api.Hold, api.Wait} {
		steps = append(steps, step{"its value is nothing", nil, api.State{Heat: 5}, api.Action{Kind: kind, Time: 3, Value: -1}, api.State{Heat: 5, Clock: 3}, api.OK})
	}
	apply(t, steps)
}
