package pulse_test

import (
	"testing"

	"workcell/api"
	"workcell/pulse"
)

// Greatest numbers of a move, and of its parts.
const (
	far  = api.MaxRamp
	most = 1000
)

// die: numbers that look drawn, the same each time.
type die uint64

func (d *die) n(most int) int {
	*d = *d*6364136223846793005 + 1442695040888963407
	return int(uint64(*d>>33) % uint64(most))
}

// pick one of some.
func pick[T any](d *die, some ...T) T { return some[d.n(len(some))] }

// to a point.
func to(x, y, z int) api.Point { return api.Point{X: x, Y: y, Z: z} }

// within: a number from -n to n.
func (d *die) within(n int) int { return d.n(2*n+1) - n }

// move that is drawn, short or long.
func (d *die) move() api.Point {
	size := func() int { return d.within(pick(d, 0, 1, 5, 40, 300)) }
	return to(size(), size(), size())
}

// pulses that are drawn, and may be.
func (d *die) pulses(count int) []api.Pulse {
	l := make([]api.Pulse, count)
	for i := range l {
		steps := d.n(8)
		l[i] = steps | (steps&d.n(8))<<3
	}
	return l
}

// line of a move that may be.
func line(t *testing.T, by api.Point) []api.Pulse {
	t.Helper()
	l, e := pulse.Line(by)
	if e != api.OK {
		t.Fatalf("Line(%v): %v", by, e)
	}
	return l
}

// curve of a move that may be.
func curve(t *testing.T, by api.Point, parts int) []api.Point {
	t.Helper()
	l, e := pulse.Curve(by, parts)
	if e != api.OK {
		t.Fatalf("Curve(%v, %d): %v", by, parts, e)
	}
	return l
}

// added: all points added up.
func added(l []api.Point) api.Point {
	var p api.Point
	for _, q := range l {
		p = to(p.X+q.X, p.Y+q.Y, p.Z+q.Z)
	}
	return p
}
