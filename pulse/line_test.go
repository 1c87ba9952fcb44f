package pulse_test

import (
	"slices"
	"testing"

	"workcell/api"
	"workcell/pulse"
)

// P15.1: pulses of moves.
func TestLine(t *testing.T) {
	for _, c := range []struct {
		by   api.Point
		want []api.Pulse
	}{
		{to(4, 2, 0), []int{3, 1, 3, 1}}, // the chapter's own
		{to(0, 0, 0), nil},
		// One step, each axis by itself, up and down, and all at once.
		{to(1, 0, 0), []int{1}}, {to(0, 1, 0), []int{2}}, {to(0, 0, 1), []int{4}},
		{to(-1, 0, 0), []int{9}}, {to(0, -1, 0), []int{18}}, {to(0, 0, -1), []int{36}},
		{to(1, 1, 1), []int{7}}, {to(-1, -1, -1), []int{63}}, {to(1, -1, 1), []int{23}}, {to(-1, 1, -1), []int{47}},
		// A half is rounded up: one of two steps is made in the first tick, of four in the second.
		{to(2, 1, 0), []int{3, 1}}, {to(2, -1, 0), []int{19, 1}}, {to(-2, 1, 0), []int{11, 9}},
		{to(4, 1, 0), []int{1, 3, 1, 1}}, {to(1, 4, 0), []int{2, 3, 2, 2}}, {to(1, 0, 4), []int{4, 5, 4, 4}},
		{to(3, 1, 0), []int{1, 3, 1}}, {to(3, 2, 0), []int{3, 1, 3}}, {to(3, 1, 2), []int{5, 3, 5}},
		{to(5, 1, 2), []int{1, 5, 3, 5, 1}}, {to(5, 3, 4), []int{7, 5, 3, 5, 7}}, {to(-5, -3, -4), []int{63, 45, 27, 45, 63}},
		// The longest axis goes down, or is Y or Z.
		{to(2, -4, 0), []int{19, 18, 19, 18}}, {to(0, 2, -4), []int{38, 36, 38, 36}}, {to(-2, 0, -4), []int{45, 36, 45, 36}},
		// Two that are as long as one another, of any sign.
		{to(3, -3, 0), []int{19, 19, 19}}, {to(-2, 0, 2), []int{13, 13}},
	} {
		got, e := pulse.Line(c.by)
		if !slices.Equal(got, c.want) || e != api.OK {
			t.Errorf("Line(%v): %v, %v; wanted %v", c.by, got, e, c.want)
		}
	}
}

// P15.1: the longest lines: an axis that makes one step makes it in the middle.
func TestLongLine(t *testing.T) {
	l := line(t, to(far, -1, far-1))
	if len(l) != far {
		t.Fatalf("%d pulses", len(l))
	}
	for i, p := range l {
		want := 5
		switch i + 1 {
		case far / 2: // Y steps, Z goes on
			want = 5 | 18
		case far/2 + 1: // what Z lacks
			want = 1
		}
		if p != want {
			t.Errorf("pulse %d: %d, wanted %d", i, p, want)
		}
	}
	for _, by := range []api.Point{to(far, far, far), to(-far, far, -far), to(far, 0, 0), to(0, 0, -far), to(0, -far, 1)} {
		l := line(t, by)
		end, e := pulse.Sum(l)
		if len(l) != far || end != by || e != api.OK {
			t.Errorf("Line(%v): %d pulses, in all %v, %v", by, len(l), end, e)
		}
	}
}

// P15.2: pulses added, and where each leads.
func TestSumPlaces(t *testing.T) {
	for _, c := range []struct {
		l    []api.Pulse
		want []api.Point
	}{
		{nil, nil},
		{[]int{}, nil},
		{[]int{0}, []api.Point{{}}},
		{[]int{1}, []api.Point{to(1, 0, 0)}}, {[]int{2}, []api.Point{to(0, 1, 0)}}, {[]int{4}, []api.Point{to(0, 0, 1)}},
		{[]int{9}, []api.Point{to(-1, 0, 0)}}, {[]int{18}, []api.Point{to(0, -1, 0)}}, {[]int{36}, []api.Point{to(0, 0, -1)}},
		{[]int{7}, []api.Point{to(1, 1, 1)}}, {[]int{63}, []api.Point{to(-1, -1, -1)}}, {[]int{23}, []api.Point{to(1, -1, 1)}},
		{[]int{3, 1, 3, 1}, []api.Point{to(1, 1, 0), to(2, 1, 0), to(3, 2, 0), to(4, 2, 0)}},
		// There and back, and standing still.
		{[]int{1, 0, 9, 9, 0}, []api.Point{to(1, 0, 0), to(1, 0, 0), to(0, 0, 0), to(-1, 0, 0), to(-1, 0, 0)}},
		{[]int{7, 63, 63}, []api.Point{to(1, 1, 1), to(0, 0, 0), to(-1, -1, -1)}},
	} {
		var end api.Point
		if n := len(c.want); n > 0 {
			end = c.want[n-1]
		}
		if got, e := pulse.Sum(c.l); got != end || e != api.OK {
			t.Errorf("Sum(%v): %v, %v; wanted %v", c.l, got, e, end)
		}
		if got, e := pulse.Places(c.l); !slices.Equal(got, c.want) || e != api.OK {
			t.Errorf("Places(%v): %v, %v; wanted %v", c.l, got, e, c.want)
		}
	}
}
