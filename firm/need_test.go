package firm_test

import (
	"testing"

	"workcell/api"
	"workcell/firm"
	"workcell/ramp"
)

// P18.1: the greatest change, of any sign, by PerStep, rounded up.
func TestNeed(t *testing.T) {
	r := even() // 10 ticks a step of 2
	for _, c := range []struct {
		from, to api.Point
		want     int
	}{
		{at(0, 0, 0), at(0, 0, 0), 0},
		{at(7, -3, 2), at(7, -3, 2), 0},
		{at(0, 0, 0), at(1, 0, 0), 10},
		{at(0, 0, 0), at(2, 0, 0), 10},
		{at(0, 0, 0), at(3, 0, 0), 20},
		{at(0, 0, 0), at(0, -3, 0), 20},
		{at(0, 0, 0), at(0, 0, -4), 20},
		{at(0, 0, 0), at(0, 0, 5), 30},
		{at(0, 0, 0), at(4, 5, 6), 30},
		{at(0, 0, 0), at(4, -9, 6), 50},
		{at(0, 0, 0), at(-11, 9, 6), 60},
		{at(-5, 6, 1), at(6, -6, 2), 60},
		{at(-20, 0, 0), at(100, 0, 0), 600},
		{at(-20, -30, -5), at(100, 90, 40), 600},
		{at(0, -30, 0), at(0, 89, 0), 600},
		{at(0, -30, 0), at(0, 88, 0), 590},
	} {
		needs(t, r, c.from, c.to, c.want)
	}
}

// P18.1: ramps: the sum of what each step takes.
func TestNeedOfRamps(t *testing.T) {
	r := with(func(r *api.Rig) { r.Ramp, r.PerStep = of(1000, 100, 300, 100), 1 })
	for steps, want := range map[int]int{0: 0, 1: 10, 2: 20, 3: 25, 4: 30, 5: 33, 6: 36, 7: 39, 40: 138} {
		needs(t, r, at(0, 0, 0), at(steps, 0, 0), want)
		needs(t, r, at(-20, 1, -2), at(-20+steps, 0, -1), map[bool]int{true: 10, false: want}[steps == 0])
	}
	slow := with(func(r *api.Rig) { r.Ramp, r.PerStep = of(1000, 100, 300, 100), wide })
	needs(t, slow, slow.Low, slow.High, 10)
	needs(t, slow, slow.Low, slow.Low, 0)
}

// P18.1: runs of MaxRamp steps at most, all but the last full, each with a ramp of its own.
func TestNeedOfRuns(t *testing.T) {
	r := with(func(r *api.Rig) {
		r.Low, r.High, r.Ramp, r.PerStep = at(-far, -far, -far), at(far, far, far), of(1000, 100, 300, 100), 3
	})
	total := func(steps int) int {
		n, e := ramp.Total(r.Ramp, steps)
		if e != api.OK {
			t.Fatal(e)
		}
		return n
	}
	full := total(long)
	if full != 30+3*(long-4) {
		t.Fatal(full)
	}
	for steps, want := range map[int]int{
		long - 1:   total(long - 1),
		long:       full,
		long + 1:   full + 10,
		long + 5:   full + 33,
		2*long - 1: full + total(long-1),
		2 * long:   2 * full,
		2*long + 1: 2*full + 10,
		7*long + 4: 7*full + 30,
	} {
		needs(t, r, at(0, 0, 0), at(0, 3*steps, 0), want)
		needs(t, r, at(5, 0, 9), at(4, 9, 9-3*steps+2), want)
		needs(t, r, at(-far, 0, 0), at(-far+3*steps-1, 0, 0), want)
	}
	needs(t, r, r.Low, r.High, 333*full+total(6666667-333*long)) // of 20000000 micrometres
}

// P18.1: the longest move of all takes more ticks than a run has; Need tells it all the same.
func TestNeedOfTheLongest(t *testing.T) {
	r := api.Rig{Low: at(-far, -far, -far), High: at(far, far, far), Ramp: of(fast, 1, 1, high), PerStep: 1, Most: 1}
	needs(t, r, r.Low, r.High, 2*far*fast)
	needs(t, r, r.Low, api.Point{}, far*fast)
	r.Ramp = of(1, 1, 1, 0)
	needs(t, r, r.Low, r.High, 2*far)
}

// P18.1: a point that is not within Low and High, the first or the second.
func TestNeedOutside(t *testing.T) {
	r := even()
	for _, p := range []api.Point{
		at(-21, 0, 0), at(101, 0, 0), at(0, -31, 0), at(0, 91, 0), at(0, 0, -6), at(0, 0, 41),
		at(least, 0, 0), at(most, 0, 0), at(0, least, 0), at(0, most, 0), at(0, 0, least), at(0, 0, most), at(far+1, far+1, far+1),
	} {
		for _, q := range []api.Point{{}, p, r.Low, r.High, at(least, least, least), at(most, most, most)} {
			for _, way := range [][2]api.Point{{p, q}, {q, p}} {
				if n, e := firm.Need(r, way[0], way[1]); n != 0 || e != api.ErrForm {
					t.Errorf("Need(%v, %v): %d, %v", way[0], way[1], n, e)
				}
			}
		}
	}
}
