package curve_test

import (
	"math"
	"slices"
	"testing"

	"workcell/api"
	"workcell/curve"
)

// P6.2: points become a curve.
func TestFit(t *testing.T) {
	for _, c := range []struct{ points, want []api.Knot }{
		{knots(5, 7), knots(0, 0, 5, 7)},
		{knots(0, 0, 5, 7), knots(0, 0, 5, 7)},
		{knots(1, 1, 2, 2, 3, 3), knots(0, 0, 1, 1, 2, 2, 3, 3)},
		{knots(3, 3, 1, 1, 2, 2), knots(0, 0, 1, 1, 2, 2, 3, 3)},
		// Points of one volume: the mean, cut off.
		{knots(4, 1, 4, 2), knots(0, 0, 4, 1)},
		{knots(4, 2, 4, 1), knots(0, 0, 4, 1)},
		{knots(4, 7, 9, 20, 4, 3, 9, 21, 4, 3), knots(0, 0, 4, 4, 9, 20)},
		{knots(4, 4, 4, 4), knots(0, 0, 4, 4)},
		{knots(3, 5, 4, 0, 4, 12), knots(0, 0, 3, 5, 4, 6)},
		{slices.Repeat(knots(most, most), api.MaxKnots), knots(0, 0, most, most)},
		// Points that do not rise above those that stay.
		{knots(1, 5, 2, 5, 3, 6), knots(0, 0, 1, 5, 3, 6)},
		{knots(1, 5, 2, 3, 3, 4), knots(0, 0, 1, 5)},
		{knots(1, 5, 2, 3, 3, 4, 4, 5, 5, 6), knots(0, 0, 1, 5, 5, 6)},
		{knots(1, 5, 2, 4, 2, 7), knots(0, 0, 1, 5)},
		{knots(1, 0, 2, 3), knots(0, 0, 2, 3)},
		{knots(1, 0, 2, 0, 3, 1), knots(0, 0, 3, 1)},
		{knots(3, 0, 3, 1, 4, 1), knots(0, 0, 4, 1)},
		// What was measured for no volume becomes 0, and takes no other point away.
		{knots(0, 5, 1, 3), knots(0, 0, 1, 3)},
		{knots(0, 5, 1, 5, 2, 9), knots(0, 0, 1, 5, 2, 9)},
		{knots(0, 5, 0, 900, 1, 3), knots(0, 0, 1, 3)},
		{knots(2, 9, 0, most, 1, 3), knots(0, 0, 1, 3, 2, 9)},
		{knots(0, 5, 1, 0, 2, 1), knots(0, 0, 2, 1)},
		{knots(most, most), knots(0, 0, most, most)},
		{knots(most, 1, most-1, most), knots(0, 0, most-1, most)},
		// As many as there may be.
		{line(api.MaxKnots, 3, 2), line(api.MaxKnots, 3, 2)},
		{line(api.MaxKnots, 3, 2)[1:], line(api.MaxKnots, 3, 2)},
		{with(line(api.MaxKnots, 3, 2), 0, 0, 1000), line(api.MaxKnots, 3, 2)},
		{append(line(api.MaxKnots, 3, 2)[1:], knots(1, 0)...), line(api.MaxKnots, 3, 2)},
		{append(line(api.MaxKnots, 3, 2)[1:], knots(3, 3)...), line(api.MaxKnots, 3, 2)},
		{append(line(api.MaxKnots, 3, 2)[1:], knots(1000, 1)...), line(api.MaxKnots, 3, 2)},
	} {
		if got, e := curve.Fit(c.points); !slices.Equal(got, c.want) || e != api.OK {
			t.Errorf("Fit(%v): %v, %v, not %v", c.points, got, e, c.want)
		}
		turned := slices.Clone(c.points)
		slices.Reverse(turned)
		if got, e := curve.Fit(turned); !slices.Equal(got, c.want) || e != api.OK {
			t.Errorf("Fit(%v): %v, %v, not %v", turned, got, e, c.want)
		}
	}
}

// P6.2: ErrCount, then ErrRange, then what Check says of the result.
func TestFitRefuses(t *testing.T) {
	for _, c := range []struct {
		points []api.Knot
		want   api.Errno
	}{
		{nil, api.ErrCount},
		{[]api.Knot{}, api.ErrCount},
		{knots(0, 0), api.ErrCount},
		{knots(0, 5), api.ErrCount},
		{knots(0, 5, 0, 6), api.ErrCount},
		{knots(5, 0), api.ErrCount},
		{knots(5, 0, 5, 1), api.ErrCount},
		{knots(0, 3, 1, 0, 2, 0), api.ErrCount},
		{line(api.MaxKnots+1, 1, 1), api.ErrCount},
		{line(1000, 1, 1), api.ErrCount},
		{slices.Repeat(knots(1, 1), api.MaxKnots+1), api.ErrCount},
		// With 0, 0 there is one too many.
		{line(api.MaxKnots+1, 1, 1)[1:], api.ErrCount},
		{with(line(api.MaxKnots+1, 1, 1), 7, -1, -1), api.ErrCount},
		{slices.Repeat(knots(math.MaxInt, math.MaxInt), api.MaxKnots+1), api.ErrCount},

		{knots(-1, 0), api.ErrRange},
		{knots(0, -1), api.ErrRange},
		{knots(most+1, 1), api.ErrRange},
		{knots(1, most+1), api.ErrRange},
		{knots(math.MinInt, 1), api.ErrRange},
		{knots(1, math.MinInt), api.ErrRange},
		{knots(math.MaxInt, 1), api.ErrRange},
		{knots(1, math.MaxInt, 1, math.MaxInt), api.ErrRange},
		{knots(1, 1, 2, 2, 3, most+1), api.ErrRange},
		// Even of a point that would go, or become another.
		{knots(1, 1, 2, -1), api.ErrRange},
		{knots(0, most+1, 1, 1), api.ErrRange},
		{knots(0, -5, 1, 1), api.ErrRange},
		{knots(1, -1, 1, 3), api.ErrRange},
		{with(line(api.MaxKnots+1, 1, 1)[1:], 49, most+1, 1), api.ErrRange},
	} {
		if got, e := curve.Fit(c.points); len(got) != 0 || e != c.want {
			t.Errorf("Fit(%v): %v, %v, not %v", c.points, got, e, c.want)
		}
	}
}

// fitted: what Fit should make of points of small volumes: volume by volume, by what was measured for each.
func fitted(points []api.Knot, volumes int) []api.Knot {
	c := knots(0, 0)
	for v := 1; v < volumes; v++ {
		sum, count := 0, 0
		for _, p := range points {
			if p.Volume == v {
				sum, count = sum+p.Steps, count+1
			}
		}
		if count > 0 && sum/count > c[len(c)-1].Steps {
			c = append(c, api.Knot{Volume: v, Steps: sum / count})
		}
	}
	return c
}

// P6.2: many lists of points; what is fitted is a curve, and stays as it is when it is fitted again.
func TestFitMany(t *testing.T) {
	d := die(62)
	for range 5000 {
		volumes, steps := 1+d.n(60), 1+d.n(200)
		var points []api.Knot
		for range d.n(api.MaxKnots + 1) {
			points = append(points, api.Knot{Volume: d.n(volumes), Steps: d.n(steps)})
		}
		want := fitted(points, volumes)
		got, e := curve.Fit(points)
		if said := curve.Check(want); e != said || e == api.OK && !slices.Equal(got, want) || e != api.OK && len(got) != 0 {
			t.Fatalf("Fit(%v): %v, %v, not %v, %v", points, got, e, want, said)
		}
		if e != api.OK {
			continue
		}
		if again, e := curve.Fit(got); !slices.Equal(again, got) || e != api.OK {
			t.Fatalf("Fit(%v): %v, %v", got, again, e)
		}
	}
}

// All: points are not changed, nor their spare room, and what comes out is nobody else's.
func TestFitMemory(t *testing.T) {
	for _, first := range [][]api.Knot{knots(9, 9, 3, 3, 5, 1, 3, 1), line(5, 3, 2)} {
		room := append(slices.Clone(first), knots(70, 70, 80, 80)...)
		was := slices.Clone(room)
		points := room[:len(first)]
		one, _ := curve.Fit(points)
		other, _ := curve.Fit(points)
		kept := slices.Clone(other)
		for i := range one[:cap(one)] {
			one[:cap(one)][i] = api.Knot{Volume: -1, Steps: -1}
		}
		if !slices.Equal(room, was) {
			t.Errorf("%v is %v now", was, room)
		}
		for i := range room {
			room[i] = api.Knot{Volume: -2, Steps: -2}
		}
		if !slices.Equal(other, kept) {
			t.Errorf("%v is %v now", kept, other)
		}
	}
}
