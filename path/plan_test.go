package path_test

import (
	"slices"
	"testing"

	"workcell/api"
	"workcell/path"
)

// TestCheck: which point is wrong (P13.1).
func TestCheck(t *testing.T) {
	pin := box(-1000, -1000, 0, 1000, 1000, 9000)
	for _, c := range []struct {
		name string
		tool api.Box
		way  []api.Point
		n    int
	}{
		{"beside all", dot, []api.Point{at(90000, 50000, 0), at(90000, 60000, 0)}, -1},
		{"within a box", dot, []api.Point{at(5, 5, 5)}, 0},
		{"within a box, and out of it", dot, []api.Point{at(5, 5, 5), at(5, 5, 90000)}, 0},
		{"above a box", dot, []api.Point{at(5, 5, 14001)}, -1},
		{"on a box", dot, []api.Point{at(5, 5, 14000)}, -1},
		{"just in a box", dot, []api.Point{at(5, 5, 13999)}, 0},
		{"under the deck", dot, []api.Point{at(5, 5, 0)}, -1},
		{"into a box", dot, []api.Point{at(5, 5, 14000), at(5, 5, 13999)}, 1},
		{"through a box", dot, []api.Point{at(-5, 5, 5), at(70000, 5, 5)}, 1},
		{"through a box, backwards", dot, []api.Point{at(70000, 5, 5), at(-5, 5, 5)}, 1},
		{"through along Y", dot, []api.Point{at(5, -5, 5), at(5, 31000, 5)}, 1},
		{"through along Z", dot, []api.Point{at(5, 5, -5), at(5, 5, 15000)}, 1},
		{"along a side", dot, []api.Point{at(-5, 30000, 5), at(70000, 30000, 5)}, -1},
		{"around a box", dot, []api.Point{at(-5, -5, 5), at(60000, -5, 5), at(60000, 30000, 5), at(-5, 30000, 5), at(-5, -5, 5)}, -1},
		{"standing still", dot, []api.Point{at(-5, 5, 5), at(-5, 5, 5), at(-5, 5, 5), at(5, 5, 5), at(5, 5, 5)}, 3},
		{"the second box on the way", dot, []api.Point{at(-5, 5, 14000), at(70000, 5, 14000), at(198000, 5, 14000)}, 2},
		{"a pin beside", pin, []api.Point{at(61000, 5, 0)}, -1},
		{"a pin that is too thick", pin, []api.Point{at(60999, 5, 0)}, 0},
		{"a pin behind", pin, []api.Point{at(0, 31000, 0)}, -1},
		{"a pin not far enough behind", pin, []api.Point{at(0, 30999, 0)}, 0},
		{"a pin on a box", pin, []api.Point{at(5, 5, 14000)}, -1},
		{"a pin whose head is under the deck", pin, []api.Point{at(5, 5, -9000)}, -1},
		{"a pin whose head comes through the deck", pin, []api.Point{at(5, 5, -8999)}, 0},
		{"a tool that hangs down", box(0, 0, -20, 0, 0, 0), []api.Point{at(5, 5, 14020), at(5, 5, 14019)}, 1},
		{"from one end to the other", dot, []api.Point{at(-far, -far, far), at(far, -far, far), at(far, far, far), at(far, far, -far)}, -1},
		{"from one end to the other, through a box", dot, []api.Point{at(-far, 5, 5), at(far, 5, 5)}, 1},
	} {
		if n, e := path.Check(table(), c.tool, c.way); n != c.n || e != api.OK {
			t.Errorf("%s: %v %v, should be %v", c.name, n, e, c.n)
		}
	}
}

// TestCheckLong: the longest way, wrong at its end alone (P13.1).
func TestCheckLong(t *testing.T) {
	way := append(slices.Repeat([]api.Point{at(5, 5, 20000), at(6, 5, 20000)}, 499), at(6, 5, 20000), at(6, 5, 13999))
	if n, e := path.Check(table(), dot, way); n != 999 || e != api.OK {
		t.Error(n, e)
	}
}

// TestPlan: ways that are found (P13.2).
func TestPlan(t *testing.T) {
	pin := box(-1000, -1000, -2000, 1000, 1000, 9000)
	for _, c := range []struct {
		name string
		tool api.Box
		way  []api.Point
	}{
		{"nowhere", dot, []api.Point{at(90000, 5, 5)}},
		{"up", dot, []api.Point{at(90000, 5, 5), at(90000, 5, 6)}},
		{"down", dot, []api.Point{at(90000, 5, 6), at(90000, 5, 5)}},
		{"straight across", dot, []api.Point{at(90000, 40000, 5), at(70000, 40000, 5)}},
		{"straight along", dot, []api.Point{at(90000, 40000, 5), at(90000, 70000, 5)}},
		{"across, then along", dot, []api.Point{at(90000, 40000, 5), at(70000, 40000, 5), at(70000, 50000, 5)}},
		{"across, and down", dot, []api.Point{at(90000, 40000, 9), at(70000, 40000, 9), at(70000, 40000, 5)}},
		{"up, and across", dot, []api.Point{at(90000, 40000, 5), at(90000, 40000, 9), at(70000, 40000, 9)}},
		{"over the low box", dot, []api.Point{at(-5, 5, 5), at(-5, 5, 14000), at(70000, 5, 14000), at(70000, 5, 5)}},
		{"over the low box, to where it is higher", dot, []api.Point{at(-5, 5, 5), at(-5, 5, 20000), at(70000, 5, 20000)}},
		{"over the low box, to just below its top", dot, []api.Point{at(-5, 5, 5), at(-5, 5, 14000), at(70000, 5, 14000), at(70000, 5, 13999)}},
		{"over both boxes", dot, []api.Point{at(-5, 5, 5), at(-5, 5, 40000), at(200000, 5, 40000), at(200000, 5, 7)}},
		{"over the high box behind, along Y", dot, []api.Point{at(70000, 60000, 5), at(70000, 60000, 50000), at(5, 60000, 50000), at(5, 130000, 50000), at(5, 130000, 5)}},
		{"onto a box", dot, []api.Point{at(-5, 5, 5), at(-5, 5, 14000), at(50, 5, 14000)}},
		{"from a box", dot, []api.Point{at(50, 5, 14000), at(-5, 5, 14000), at(-5, 5, 5)}},
		{"a pin over the low box", pin, []api.Point{at(-5000, 5, 2005), at(-5000, 5, 16000), at(70000, 5, 16000), at(70000, 5, 2005)}},
		{"a pin beside the low box", pin, []api.Point{at(-5000, 31000, 2005), at(70000, 31000, 2005)}},
		{"a pin over the edge of the low box", pin, []api.Point{at(-5000, 30999, 2005), at(-5000, 30999, 16000), at(70000, 30999, 16000), at(70000, 30999, 2005)}},
		{"under the deck", pin, []api.Point{at(-5000, 5, -9000), at(70000, 5, -9000)}},
		{"from under the deck to where it must be over a box", pin, []api.Point{at(-5000, 5, -9000), at(-5000, 5, 16000), at(70000, 5, 16000), at(70000, 5, 0)}},
		{"flat on the deck, through under boxes", dot, []api.Point{at(-5, 5, 0), at(70000, 5, 0)}},
		{"flat on the deck, to where it must be over a box", dot, []api.Point{at(-5, 5, 0), at(-5, 5, 14000), at(70000, 5, 14000), at(70000, 5, 1)}},
		{"from one end to the other", dot, []api.Point{at(-far, far, 0), at(far, far, 0), at(far, -far, 0)}},
		{"from one end to the other, over a box", dot, []api.Point{at(-far, 5, 5), at(-far, 5, 40000), at(far, 5, 40000), at(far, 5, -far)}},
		{"at the top", dot, []api.Point{at(-far, 5, far), at(far, 5, far), at(far, far, far)}},
		{"at the bottom", dot, []api.Point{at(-far, 5, -far), at(far, 5, -far), at(far, far, -far)}},
	} {
		l, e := path.Plan(table(), c.tool, c.way[0], c.way[len(c.way)-1])
		if !slices.Equal(l, c.way) || e != api.OK {
			t.Errorf("%s: %v %v, should be %v", c.name, l, e, c.way)
		}
	}
}

// TestPlanBlocked: ways that are not (P13.2).
func TestPlanBlocked(t *testing.T) {
	pin := box(-1000, -1000, -2000, 1000, 1000, 9000)
	tall := box(0, 0, 0, 0, 0, far-14000)
	for _, c := range []struct {
		name     string
		tool     api.Box
		from, to api.Point
		e        api.Errno
	}{
		{"in a box", dot, at(5, 5, 5), at(5, 5, 5), api.ErrBlocked},
		{"out of a box", dot, at(5, 5, 5), at(5, 5, 90000), api.ErrBlocked},
		{"out of a box, across", dot, at(5, 5, 5), at(70000, 5, 5), api.ErrBlocked},
		{"into a box", dot, at(70000, 5, 5), at(5, 5, 5), api.ErrBlocked},
		{"down into a box", dot, at(5, 5, 14000), at(5, 5, 13999), api.ErrBlocked},
		{"up through a box", dot, at(5, 5, -1), at(5, 5, 90000), api.ErrBlocked},
		{"down through a box", dot, at(5, 5, 90000), at(5, 5, -1), api.ErrBlocked},
		{"a pin at a box", pin, at(60999, 5, 5), at(90000, 5, 5), api.ErrBlocked},
		{"as high as may be", tall, at(-5, 5, 5), at(70000, 5, 5), api.OK},
		{"the tool higher than may be", box(0, 0, 0, 0, 0, far-13999), at(-5, 5, 5), at(70000, 5, 5), api.ErrBlocked},
		{"a long tool, as high as may be", box(0, 0, 14000-far, 0, 0, 0), at(-5, 5, 5), at(70000, 5, 5), api.OK},
		{"the way higher than may be", box(0, 0, 13999-far, 0, 0, 0), at(-5, 5, 5), at(70000, 5, 5), api.ErrBlocked},
		{"the tool as high as may be, at first", tall, at(70000, 40000, 14000), at(70000, 40000, 5), api.OK},
		{"the tool too high at first", tall, at(70000, 40000, 14001), at(70000, 40000, 5), api.ErrBlocked},
		{"the tool too high at last", tall, at(70000, 40000, 5), at(70000, 40000, 14001), api.ErrBlocked},
		{"the tool too high, and goes nowhere", tall, at(70000, 40000, 14001), at(70000, 40000, 14001), api.ErrBlocked},
		{"the tool too far to the left", pin, at(999-far, 5, 90000), at(5, 5, 90000), api.ErrBlocked},
		{"the tool too far to the right", pin, at(5, 5, 90000), at(far-999, 5, 90000), api.ErrBlocked},
		{"the tool too far in front", pin, at(5, 999-far, 90000), at(5, 5, 90000), api.ErrBlocked},
		{"the tool too far behind", pin, at(5, 5, 90000), at(5, far-999, 90000), api.ErrBlocked},
		{"the tool too far down at first", pin, at(-5000, 5, 1999-far), at(-5000, 5, 0), api.ErrBlocked},
		{"the tool too far down at last", pin, at(-5000, 5, 0), at(-5000, 5, 1999-far), api.ErrBlocked},
		{"the tool just not too far", pin, at(1000-far, 1000-far, 2000-far), at(far-1000, far-1000, far-9000), api.OK},
	} {
		l, e := path.Plan(table(), c.tool, c.from, c.to)
		if e != c.e || (e == api.OK) != (len(l) > 0) {
			t.Errorf("%s: %v %v, should be %v", c.name, l, e, c.e)
		}
	}
}

// TestPlanOverFullDeck: the tops of wares are gone along at once, and gaps are too narrow for some tools (P13.2).
func TestPlanOverFullDeck(t *testing.T) {
	d := full(api.MaxWare)
	for _, c := range []struct {
		half   int
		height int
	}{{0, 5}, {2500, 5}, {2501, api.MaxWare}} {
		tool := box(-c.half, 0, 0, c.half, 0, 0)
		from, to := at(135000, -9000, 5), at(135000, 400000, 5)
		l, e := path.Plan(d, tool, from, to)
		want := slices.Compact([]api.Point{from, at(from.X, from.Y, c.height), at(to.X, to.Y, c.height), to})
		if !slices.Equal(l, want) || e != api.OK {
			t.Errorf("%d: %v %v, should be %v", c.half, l, e, want)
		}
	}
}
