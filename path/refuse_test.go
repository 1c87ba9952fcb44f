package path_test

import (
	"math"
	"slices"
	"testing"

	"workcell/api"
	"workcell/path"
)

// both Plan and Check, of whom nothing comes beside an error.
func both(t *testing.T, name string, d []api.Seat, tool api.Box, a, b api.Point, want api.Errno) {
	t.Helper()
	if l, e := path.Plan(d, tool, a, b); e != want || len(l) != 0 {
		t.Errorf("%s: Plan: %v %v, should be %v", name, l, e, want)
	}
	for _, way := range [][]api.Point{{a, b}, {a, a, a, b}, slices.Repeat([]api.Point{a, b}, 600)} {
		if n, e := path.Check(d, tool, way); e != want || n != 0 {
			t.Errorf("%s: Check of %d points: %v %v, should be %v", name, len(way), n, e, want)
		}
	}
}

// TestDeckRefused: what deck.Check says is ahead of all else (Plan and Check).
func TestDeckRefused(t *testing.T) {
	kindless := seat(1, 10, 10, 10)
	kindless.Ware.Kind = 0
	nameless := seat(1, 10, 10, 10)
	nameless.Name = ""
	for _, c := range []struct {
		name string
		d    []api.Seat
		e    api.Errno
	}{
		{"too many seats", append(full(10), seat(1, 10, 10, 10)), api.ErrCount},
		{"slot 0", []api.Seat{seat(0, 10, 10, 10)}, api.ErrRange},
		{"no name", []api.Seat{nameless}, api.ErrName},
		{"no kind", []api.Seat{kindless}, api.ErrKind},
		{"too wide", []api.Seat{seat(1, api.SlotWidth+1, 10, 10)}, api.ErrSize},
		{"one slot twice", []api.Seat{seat(1, 10, 10, 10), seat(1, 10, 10, 10)}, api.ErrTwice},
	} {
		both(t, c.name, c.d, dot, at(0, 0, 0), at(1, 1, 1), c.e)
		both(t, c.name+", and a tool and points that are none", c.d, box(1, 0, 0, 0, 0, far+1), at(far+1, 0, 0), at(1, 1, far+1), c.e)
	}
	noDeck := []api.Seat{seat(1, api.SlotWidth+1, 10, 10)}
	if n, e := path.Check(noDeck, dot, nil); n != 0 || e != api.ErrSize {
		t.Error("no point on a deck that is none:", n, e)
	}
}

// TestNumbersRefused: each number of the points and of the tool (Plan and Check).
func TestNumbersRefused(t *testing.T) {
	for _, n := range []int{-far - 1, far + 1, math.MinInt, math.MaxInt} {
		for _, p := range []api.Point{at(n, 0, 0), at(0, n, 0), at(0, 0, n)} {
			both(t, "from", nil, dot, p, at(0, 0, 0), api.ErrRange)
			both(t, "to", nil, dot, at(0, 0, 0), p, api.ErrRange)
			both(t, "from, of a tool that is none", nil, box(1, 0, 0, 1, 0, 0), p, at(0, 0, 0), api.ErrRange)
			both(t, "to, of a tool that is none", nil, box(1, 0, 0, 1, 0, 0), at(0, 0, 0), p, api.ErrRange)
			both(t, "low end of the tool", nil, api.Box{Low: p}, at(0, 0, 0), at(0, 0, 1), api.ErrRange)
			both(t, "high end of the tool", nil, api.Box{High: p}, at(0, 0, 0), at(0, 0, 1), api.ErrRange)
		}
	}
	both(t, "a tool that is none in two ways", nil, box(0, 1, 0, 0, 0, far+1), at(0, 0, 0), at(0, 0, 1), api.ErrRange)
}

// TestNoTool: a box that is not around its own point (Plan and Check).
func TestNoTool(t *testing.T) {
	for _, tool := range []api.Box{
		box(1, 0, 0, 1, 0, 0), box(0, 1, 0, 0, 1, 0), box(0, 0, 1, 0, 0, 1),
		box(-1, 0, 0, -1, 0, 0), box(0, -1, 0, 0, -1, 0), box(0, 0, -1, 0, 0, -1),
		box(1, 0, 0, -1, 0, 0), box(-5, -5, 1, 5, 5, 5), box(-5, -5, -5, 5, -1, 5),
		box(far, far, far, far, far, far),
	} {
		both(t, "no tool", table(), tool, at(0, 0, 0), at(5, 5, 5), api.ErrForm)
		both(t, "no tool, too far away", nil, tool, at(far, far, far), at(0, 0, 0), api.ErrForm)
		both(t, "no tool, too far away", nil, tool, at(-far, -far, -far), at(0, 0, 0), api.ErrForm)
		if n, e := path.Check(nil, tool, nil); n != 0 || e != api.ErrForm {
			t.Error("no tool, no point:", n, e)
		}
	}
}

// TestTools: boxes that just are tools, and points that just may be.
func TestTools(t *testing.T) {
	for _, tool := range []api.Box{dot, box(-1, 0, 0, 0, 0, 0), box(0, 0, 0, 0, 0, 1), box(-far, -far, -far, far, far, far)} {
		if l, e := path.Plan(nil, tool, at(0, 0, 0), at(0, 0, 0)); len(l) != 1 || e != api.OK {
			t.Errorf("%v: Plan: %v %v", tool, l, e)
		}
		if n, e := path.Check(nil, tool, []api.Point{{}}); n != -1 || e != api.OK {
			t.Errorf("%v: Check: %v %v", tool, n, e)
		}
	}
}

// TestCheckRefused: what Check refuses beside that, in its order (P13.1).
func TestCheckRefused(t *testing.T) {
	slanting := []api.Point{at(0, 0, 0), at(1, 1, 0)}
	for _, c := range []struct {
		name string
		tool api.Box
		way  []api.Point
		e    api.Errno
	}{
		{"no point", dot, nil, api.ErrCount},
		{"no point, of an empty list", dot, []api.Point{}, api.ErrCount},
		{"1000 points", dot, slices.Repeat([]api.Point{at(9, 9, 90000)}, 1000), api.OK},
		{"1001 points", dot, slices.Repeat([]api.Point{at(9, 9, 90000)}, 1001), api.ErrCount},
		{"X and Y", dot, slanting, api.ErrKind},
		{"Y and Z", dot, []api.Point{at(0, 0, 0), at(0, 1, 1)}, api.ErrKind},
		{"Z and X", dot, []api.Point{at(0, 0, 0), at(-1, 0, 1)}, api.ErrKind},
		{"all three", dot, []api.Point{at(0, 0, 0), at(-1, 5, 1)}, api.ErrKind},
		{"slanting behind what is met", dot, []api.Point{at(5, 5, 5), at(6, 5, 5), at(7, 7, 5)}, api.ErrKind},
		{"slanting at the end", dot, append(zigzag(999), at(0, 0, 9)), api.ErrKind},
		{"slanting, and too many", dot, slices.Repeat(slanting, 501), api.ErrCount},
		{"too far and slanting", box(0, 0, 0, 2, 0, 0), []api.Point{at(0, 0, 0), at(far-1, 1, 0)}, api.ErrRange},
		{"too far and too many", box(0, 0, 0, 2, 0, 0), slices.Repeat([]api.Point{at(far-1, 0, 0)}, 1001), api.ErrRange},
		{"the last of too many is too far", box(0, 0, 0, 2, 0, 0), append(zigzag(1000), at(far-1, 0, 0)), api.ErrRange},
		{"the last of too many is no point", dot, append(zigzag(1000), at(far+1, 0, 0)), api.ErrRange},
		{"too far behind what is met", box(0, 0, 0, 2, 0, 0), []api.Point{at(5, 5, 5), at(far-1, 5, 5)}, api.ErrRange},
	} {
		n, e := path.Check(table(), c.tool, c.way)
		if e != c.e || e != api.OK && n != 0 {
			t.Errorf("%s: %v %v, should be %v", c.name, n, e, c.e)
		}
	}
}

// TestToolTooFar: at which points a tool may be, in each direction (P13.1).
func TestToolTooFar(t *testing.T) {
	tool := box(-3, -5, -7, 2, 4, 6)
	for _, c := range []struct {
		p api.Point
		e api.Errno
	}{
		{at(far-2, 0, 0), api.OK}, {at(far-1, 0, 0), api.ErrRange}, {at(3-far, 0, 0), api.OK}, {at(2-far, 0, 0), api.ErrRange},
		{at(0, far-4, 0), api.OK}, {at(0, far-3, 0), api.ErrRange}, {at(0, 5-far, 0), api.OK}, {at(0, 4-far, 0), api.ErrRange},
		{at(0, 0, far-6), api.OK}, {at(0, 0, far-5), api.ErrRange}, {at(0, 0, 7-far), api.OK}, {at(0, 0, 6-far), api.ErrRange},
	} {
		n, e := path.Check(nil, tool, []api.Point{c.p})
		if e != c.e || e == api.OK && n != -1 || e != api.OK && n != 0 {
			t.Errorf("%v: %v %v, should be %v", c.p, n, e, c.e)
		}
	}
}
