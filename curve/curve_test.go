package curve_test

import (
	"math"
	"math/big"
	"slices"
	"testing"

	"workcell/api"
	"workcell/curve"
)

const most = api.MaxVolume

// knots of numbers: a volume, its steps, and so on.
func knots(numbers ...int) []api.Knot {
	var c []api.Knot
	for pair := range slices.Chunk(numbers, 2) {
		c = append(c, api.Knot{Volume: pair[0], Steps: pair[1]})
	}
	return c
}

// line of so many knots from 0, 0 on, each so much above the last one.
func line(count, volume, steps int) []api.Knot {
	var c []api.Knot
	for i := range count {
		c = append(c, api.Knot{Volume: i * volume, Steps: i * steps})
	}
	return c
}

// with: a list whose knot i is another.
func with(c []api.Knot, i, volume, steps int) []api.Knot {
	c = slices.Clone(c)
	c[i] = api.Knot{Volume: volume, Steps: steps}
	return c
}

// die: numbers that look drawn, the same each time.
type die uint64

func (d *die) n(most int) int {
	*d = *d*6364136223846793005 + 1442695040888963407
	return int(uint64(*d>>33) % uint64(most))
}

// curve of a few knots, each at most so much above the last one.
func (d *die) curve(volume, steps int) []api.Knot {
	c := knots(0, 0)
	for range 1 + d.n(5) {
		last := c[len(c)-1]
		c = append(c, api.Knot{Volume: last.Volume + 1 + d.n(volume), Steps: last.Steps + 1 + d.n(steps)})
	}
	return c
}

// judged: lists, and what Check says of them.
func judged() []struct {
	c    []api.Knot
	want api.Errno
} {
	return []struct {
		c    []api.Knot
		want api.Errno
	}{
		{knots(0, 0, 1, 1), api.OK},
		{knots(0, 0, 100, 30), api.OK},
		{knots(0, 0, most, most), api.OK},
		{knots(0, 0, 1, most), api.OK},
		{knots(0, 0, most, 1), api.OK},
		{knots(0, 0, 1, 5, 2, 6, 90, 7), api.OK},
		{line(api.MaxKnots-1, 3, 2), api.OK},
		{line(api.MaxKnots, 1, 1), api.OK},
		{with(line(api.MaxKnots, 3, 2), api.MaxKnots-1, most, most), api.OK},

		{nil, api.ErrCount},
		{[]api.Knot{}, api.ErrCount},
		{knots(0, 0), api.ErrCount},
		{line(api.MaxKnots+1, 1, 1), api.ErrCount},
		{line(1000, 1, 1), api.ErrCount},

		{knots(-1, 0, 1, 1), api.ErrRange},
		{knots(0, -1, 1, 1), api.ErrRange},
		{knots(0, 0, most+1, 1), api.ErrRange},
		{knots(0, 0, 1, most+1), api.ErrRange},
		{knots(0, 0, math.MaxInt, 1), api.ErrRange},
		{knots(0, 0, 1, math.MaxInt), api.ErrRange},
		{knots(math.MinInt, 0, 1, 1), api.ErrRange},
		{knots(0, math.MinInt, 1, 1), api.ErrRange},
		{knots(0, 0, 1<<32+1, 1), api.ErrRange},
		{with(line(api.MaxKnots, 3, 2), 30, 90, -1), api.ErrRange},
		{with(line(api.MaxKnots, 3, 2), api.MaxKnots-1, most+1, most), api.ErrRange},

		{knots(0, 0, 0, 1), api.ErrOrder},
		{knots(0, 0, 1, 0), api.ErrOrder},
		{knots(0, 0, 0, 0), api.ErrOrder},
		{knots(5, 5, 4, 6), api.ErrOrder},
		{knots(0, 0, 5, 5, 4, 6), api.ErrOrder},
		{knots(0, 0, 5, 5, 6, 4), api.ErrOrder},
		{knots(0, 0, 5, 5, 6, 5), api.ErrOrder},
		{knots(0, 0, 5, 5, 5, 6), api.ErrOrder},
		{with(line(api.MaxKnots, 3, 2), api.MaxKnots-1, 3*(api.MaxKnots-2), 1000), api.ErrOrder},

		{knots(1, 0, 2, 1), api.ErrForm},
		{knots(0, 1, 1, 2), api.ErrForm},
		{knots(1, 1, 2, 2), api.ErrForm},
		{line(api.MaxKnots+1, 3, 2)[1:], api.ErrForm},

		// Of several faults the one named first, wherever it is.
		{knots(-1, 5), api.ErrCount},
		{knots(1, 1), api.ErrCount},
		{with(line(api.MaxKnots+1, 1, 1), 3, -1, most+1), api.ErrCount},
		{with(line(api.MaxKnots+1, 1, 1), 3, 0, 0), api.ErrCount},
		{knots(0, 0, 5, 5, 5, 5, most+1, 6), api.ErrRange},
		{knots(0, 0, 5, 5, 4, 4, 6, -1), api.ErrRange},
		{knots(1, 1, most+1, 2), api.ErrRange},
		{knots(-1, 0, -2, -1), api.ErrRange},
		{knots(1, 0, 0, 0), api.ErrOrder},
		{knots(1, 1, 2, 2, 2, 3), api.ErrOrder},
		{knots(0, 1, 1, 2, 2, 2), api.ErrOrder},
	}
}

// P6.1: what Check says, all others say, whatever else they are asked, and nothing beside it.
func TestCheck(t *testing.T) {
	for _, c := range judged() {
		if e := curve.Check(c.c); e != c.want {
			t.Errorf("Check(%v): %v, not %v", c.c, e, c.want)
		}
		if c.want == api.OK {
			continue
		}
		for _, n := range []int{0, 1, -1, most + 1, math.MinInt, math.MaxInt} {
			if s, e := curve.Steps(c.c, n); s != 0 || e != c.want {
				t.Errorf("Steps(%v, %d): %d, %v, not %v", c.c, n, s, e, c.want)
			}
			if v, e := curve.Volume(c.c, n); v != 0 || e != c.want {
				t.Errorf("Volume(%v, %d): %d, %v, not %v", c.c, n, v, e, c.want)
			}
		}
		if v, s, e := curve.Most(c.c); v != 0 || s != 0 || e != c.want {
			t.Errorf("Most(%v): %d, %d, %v, not %v", c.c, v, s, e, c.want)
		}
	}
}

// P6.1: the last knot's volume and steps.
func TestMost(t *testing.T) {
	for _, c := range judged() {
		if c.want != api.OK {
			continue
		}
		last := c.c[len(c.c)-1]
		if v, s, e := curve.Most(c.c); v != last.Volume || s != last.Steps || e != api.OK {
			t.Errorf("Most(%v): %d, %d, %v", c.c, v, s, e)
		}
	}
}

// P6.1: rounded to the nearest, halves up.
func TestSteps(t *testing.T) {
	bent := knots(0, 0, 10, 5, 20, 105, 21, 106)
	for _, c := range []struct {
		c            []api.Knot
		volume, want int
	}{
		{knots(0, 0, 100, 30), 50, 15},
		{knots(0, 0, 100, 30), 51, 15},
		{knots(0, 0, 100, 30), 52, 16},
		{knots(0, 0, 100, 30), 55, 17},
		{knots(0, 0, 100, 30), 0, 0},
		{knots(0, 0, 100, 30), 1, 0},
		{knots(0, 0, 100, 30), 100, 30},
		{knots(0, 0, 2, 1), 1, 1},
		{knots(0, 0, 2, 3), 1, 2},
		{knots(0, 0, 3, 1), 1, 0},
		{knots(0, 0, 3, 1), 2, 1},
		{knots(0, 0, 7, 3), 1, 0},
		{knots(0, 0, 7, 3), 6, 3},
		{bent, 1, 1}, {bent, 9, 5}, {bent, 10, 5}, {bent, 11, 15}, {bent, 20, 105}, {bent, 21, 106},
		{knots(0, 0, 10, 1, 14, 2), 12, 2},
		{knots(0, 0, 10, 1, 14, 2), 11, 1},
		{knots(0, 0, most, most), most, most},
		{knots(0, 0, most, most), most - 1, most - 1},
		{knots(0, 0, most, most-1), most - 1, most - 2},
		{knots(0, 0, most, most-1), most / 2, most / 2},
		{knots(0, 0, most-1, most), most - 2, most - 1},
		{knots(0, 0, most, 1), most/2 - 1, 0},
		{knots(0, 0, most, 1), most / 2, 1},
		{knots(0, 0, 2, most), 1, most / 2},
		{knots(0, 0, most-1, most-1, most, most), most, most},
		{line(api.MaxKnots, 10, 5), 10*(api.MaxKnots-1) - 1, 5 * (api.MaxKnots - 1)},
		{line(api.MaxKnots, 10, 5), 10*(api.MaxKnots-1) - 2, 5*(api.MaxKnots-1) - 1},
	} {
		if s, e := curve.Steps(c.c, c.volume); s != c.want || e != api.OK {
			t.Errorf("Steps(%v, %d): %d, %v, not %d", c.c, c.volume, s, e, c.want)
		}
	}
}

// nearest steps for a volume, as a fraction that is exact, wherever the knots lie.
func nearest(c []api.Knot, volume int) int {
	i := 1
	for c[i].Volume < volume {
		i++
	}
	low, high := c[i-1], c[i]
	exact := big.NewRat(int64(high.Steps-low.Steps), int64(high.Volume-low.Volume))
	exact.Mul(exact, big.NewRat(int64(volume-low.Volume), 1))
	exact.Add(exact, big.NewRat(2*int64(low.Steps)+1, 2))
	return int(new(big.Int).Div(exact.Num(), exact.Denom()).Int64())
}

// P6.1: Steps and Volume of curves small and great, and what comes of it.
func TestManyCurves(t *testing.T) {
	d := die(6)
	for range 300 {
		c := d.curve(1+d.n(30), 1+d.n(30))
		volumes, steps, _ := curve.Most(c)
		needs := make([]int, volumes+1)
		for v := range needs {
			s, e := curve.Steps(c, v)
			if s != nearest(c, v) || e != api.OK {
				t.Fatalf("Steps(%v, %d): %d, %v, not %d", c, v, s, e, nearest(c, v))
			}
			if v > 0 && s < needs[v-1] {
				t.Fatalf("Steps(%v, %d): %d, fewer than for less", c, v, s)
			}
			needs[v] = s
		}
		for s := range steps + 1 {
			want := 0
			for v, n := range needs {
				if n <= s {
					want = v
				}
			}
			if v, e := curve.Volume(c, s); v != want || e != api.OK {
				t.Fatalf("Volume(%v, %d): %d, %v, not %d", c, s, v, e, want)
			}
		}
	}
	for range 2000 {
		checkGreat(t, &d)
	}
}

// checkGreat: one curve of great numbers, one volume, one number of steps.
func checkGreat(t *testing.T, d *die) {
	t.Helper()
	c := d.curve(most/5, most/5)
	volumes, steps, _ := curve.Most(c)
	volume := d.n(volumes + 1)
	s, e := curve.Steps(c, volume)
	if s != nearest(c, volume) || e != api.OK {
		t.Fatalf("Steps(%v, %d): %d, %v, not %d", c, volume, s, e, nearest(c, volume))
	}
	if v, e := curve.Volume(c, s); v < volume || e != api.OK {
		t.Fatalf("Volume(%v, %d): %d, %v, less than %d", c, s, v, e, volume)
	}
	s = d.n(steps + 1)
	v, e := curve.Volume(c, s)
	if e != api.OK || nearest(c, v) > s || v < volumes && nearest(c, v+1) <= s {
		t.Fatalf("Volume(%v, %d): %d, %v", c, s, v, e)
	}
}

// P6.1: the greatest volume that needs so many steps at most.
func TestVolume(t *testing.T) {
	for _, c := range []struct {
		c           []api.Knot
		steps, want int
	}{
		{knots(0, 0, 100, 30), 15, 51},
		{knots(0, 0, 100, 30), 0, 1},
		{knots(0, 0, 100, 30), 29, 98},
		{knots(0, 0, 100, 30), 30, 100},
		{knots(0, 0, 30, 100), 0, 0},
		{knots(0, 0, 30, 100), 2, 0},
		{knots(0, 0, 30, 100), 3, 1},
		{knots(0, 0, 30, 100), 99, 29},
		{knots(0, 0, 30, 100), 100, 30},
		{knots(0, 0, 1, most), 0, 0},
		{knots(0, 0, 1, most), most - 1, 0},
		{knots(0, 0, 1, most), most, 1},
		{knots(0, 0, most, 1), 0, most/2 - 1},
		{knots(0, 0, most, 1), 1, most},
		{knots(0, 0, most, most), most, most},
		{knots(0, 0, most, most), 123456789, 123456789},
		{knots(0, 0, 10, 1, 12, 101), 0, 4},
		{knots(0, 0, 10, 1, 12, 101), 1, 10},
		{knots(0, 0, 10, 1, 12, 101), 50, 10},
		{knots(0, 0, 10, 1, 12, 101), 51, 11},
		{knots(0, 0, 10, 1, 12, 101), 101, 12},
	} {
		if v, e := curve.Volume(c.c, c.steps); v != c.want || e != api.OK {
			t.Errorf("Volume(%v, %d): %d, %v, not %d", c.c, c.steps, v, e, c.want)
		}
	}
}

// P6.1: nothing below 0, and nothing above the last knot.
func TestRange(t *testing.T) {
	for _, c := range [][]api.Knot{knots(0, 0, 100, 30), knots(0, 0, 5, 70, 30, 100), knots(0, 0, most, most)} {
		volume, steps, _ := curve.Most(c)
		for _, n := range []int{-1, math.MinInt, volume + 1, most + 1, math.MaxInt} {
			if s, e := curve.Steps(c, n); s != 0 || e != api.ErrRange {
				t.Errorf("Steps(%v, %d): %d, %v", c, n, s, e)
			}
		}
		for _, n := range []int{-1, math.MinInt, steps + 1, most + 1, math.MaxInt} {
			if v, e := curve.Volume(c, n); v != 0 || e != api.ErrRange {
				t.Errorf("Volume(%v, %d): %d, %v", c, n, v, e)
			}
		}
	}
}

// All: what is handed in is not changed.
func TestUnchanged(t *testing.T) {
	room := append(line(5, 3, 2), knots(7, 7, 8, 8)...)
	was := slices.Clone(room)
	c := room[:5]
	curve.Check(c)
	curve.Steps(c, 7)
	curve.Volume(c, 5)
	curve.Most(c)
	if !slices.Equal(room, was) {
		t.Errorf("%v is %v now", was, room)
	}
}
