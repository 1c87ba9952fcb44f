package pulse_test

import (
	"slices"
	"testing"

	"workcell/api"
	"workcell/pulse"
)

// P15.3: a move in parts.
func TestCurve(t *testing.T) {
	for _, c := range []struct {
		by    api.Point
		parts int
		want  []api.Point
	}{
		{to(4, 2, 0), 1, []api.Point{to(4, 2, 0)}},
		{to(-4, 2, -9), 1, []api.Point{to(-4, 2, -9)}},
		{to(4, 2, 0), 2, []api.Point{to(2, 1, 0), to(2, 1, 0)}},
		{to(0, 0, 0), 3, make([]api.Point, 3)},
		// Halves are rounded up, without the sign.
		{to(5, -5, 1), 2, []api.Point{to(3, -3, 1), to(2, -2, 0)}},
		{to(-1, 1, -3), 2, []api.Point{to(-1, 1, -2), to(0, 0, -1)}},
		{to(10, -10, 1), 4, []api.Point{to(3, -3, 0), to(2, -2, 1), to(3, -3, 0), to(2, -2, 0)}},
		{to(10, 7, -2), 3, []api.Point{to(3, 2, -1), to(4, 3, 0), to(3, 2, -1)}},
		// More parts than steps.
		{to(1, -2, 0), 5, []api.Point{to(0, 0, 0), to(0, -1, 0), to(1, 0, 0), to(0, -1, 0), to(0, 0, 0)}},
		{to(far, -far, far-1), 2, []api.Point{to(far/2, -far/2, far/2), to(far/2, -far/2, far/2-1)}},
	} {
		got, e := pulse.Curve(c.by, c.parts)
		if !slices.Equal(got, c.want) || e != api.OK {
			t.Errorf("Curve(%v, %d): %v, %v; wanted %v", c.by, c.parts, got, e, c.want)
		}
	}
}

// P15.3: as many parts as there may be.
func TestManyParts(t *testing.T) {
	for _, by := range []api.Point{to(far, -far, 1), to(0, 0, 0), to(-1, 999, 1001), to(-far, 500, 501)} {
		l := curve(t, by, most)
		if len(l) != most || added(l) != by {
			t.Errorf("Curve(%v, %d): %d parts, in all %v", by, most, len(l), added(l))
		}
	}
	for i, p := range curve(t, to(far, -1, 0), most) {
		want := to(far/most, 0, 0)
		if i+1 == most/2 {
			want.Y = -1
		}
		if p != want {
			t.Errorf("part %d: %v, wanted %v", i, p, want)
		}
	}
}
