package ramp_test

import (
	"math"
	"slices"
	"sort"
	"testing"

	"workcell/api"
	"workcell/ramp"
)

// slow: speeds from both ends at once, and ticks by halving.
func slow(r api.Ramp, steps int) (speeds, ticks []int) {
	speeds, ticks = make([]int, steps), make([]int, steps)
	now := r.First
	for i := 0; 2*i < steps; i++ {
		speeds[i], speeds[steps-1-i] = now, now
		now += r.Rise
		if now > r.Most {
			now = r.Most
		}
	}
	for i, s := range speeds { // the greatest number of ticks in which no more than a step is done
		ticks[i] = sort.Search(r.Clock+1, func(x int) bool { return x*s > r.Clock }) - 1
	}
	return speeds, ticks
}

// slowAt: how many sums of the first ticks are at most tick, but for that of none.
func slowAt(ticks []int, tick int) int {
	done := 0
	for i := range ticks {
		if sum(ticks[:i+1]) <= tick {
			done++
		}
	}
	return done
}

// hold all calls against the slow ones, and against what comes of it.
func hold(t *testing.T, r api.Ramp, steps, tick int) {
	t.Helper()
	speeds, ticks := slow(r, steps)
	if got, e := ramp.Speeds(r, steps); !slices.Equal(got, speeds) || e != api.OK || !same(got) {
		t.Errorf("Speeds(%v, %d): %v, %v; wanted %v", r, steps, got, e, speeds)
	}
	if got, e := ramp.Ticks(r, steps); !slices.Equal(got, ticks) || e != api.OK || !same(got) {
		t.Errorf("Ticks(%v, %d): %v, %v; wanted %v", r, steps, got, e, ticks)
	}
	all := total(t, r, steps)
	if all != sum(ticks) {
		t.Errorf("Total(%v, %d): %d; wanted %d", r, steps, all, sum(ticks))
	}
	if got, e := ramp.At(r, steps, tick); got != slowAt(ticks, tick) || e != api.OK {
		t.Errorf("At(%v, %d, %d): %d, %v; wanted %d", r, steps, tick, got, e, slowAt(ticks, tick))
	}
	if got, e := ramp.At(r, steps, all); got != steps || e != api.OK {
		t.Errorf("At(%v, %d, %d): %d, %v; wanted all", r, steps, all, got, e)
	}
	if got, e := ramp.At(r, steps, all-1); steps > 0 && (got != steps-1 || e != api.OK) {
		t.Errorf("At(%v, %d, %d): %d, %v; wanted all but one", r, steps, all-1, got, e)
	}
	holdLongest(t, r, tick)
	holdLongest(t, r, all)
	holdLongest(t, r, max(all-1, 0))
}

// holdLongest against Total: so many steps fit, and one more does not.
func holdLongest(t *testing.T, r api.Ramp, ticks int) {
	t.Helper()
	n, e := ramp.Longest(r, ticks)
	if e != api.OK || n < 0 || n > long {
		t.Fatalf("Longest(%v, %d): %d, %v", r, ticks, n, e)
	}
	if total(t, r, n) > ticks || n < long && total(t, r, n+1) <= ticks {
		t.Errorf("Longest(%v, %d): %d", r, ticks, n)
	}
}

// P14.1, P14.2: drawn ramps.
func TestDrawn(t *testing.T) {
	d := die(7)
	for range 3000 {
		r := d.drawn()
		steps := d.n(pick(&d, 3, 9, 60))
		hold(t, r, steps, d.n(pick(&d, 2, 40, 3000, 50*r.Clock)))
	}
}

// P14.1, P14.2: more steps never take less time.
func TestMoreSteps(t *testing.T) {
	d := die(8)
	for range 60 {
		r := d.drawn()
		last := -1
		for steps := range 200 {
			now := total(t, r, steps)
			if now <= last {
				t.Fatalf("Total(%v, %d): %d, one step less %d", r, steps, now, last)
			}
			last = now
		}
	}
}

// P14.2: Longest of long ramps, at the ticks at which one step more fits.
func TestLongestAtTotals(t *testing.T) {
	d := die(9)
	for range 100 {
		r := d.drawn()
		steps := pick(&d, long, long-1, d.n(long+1))
		all := total(t, r, steps)
		for ticks, want := range map[int]int{all: steps, all - 1: steps - 1} {
			if got, e := ramp.Longest(r, ticks); want >= 0 && (got != want || e != api.OK) {
				t.Errorf("Longest(%v, %d): %d, %v; wanted %d", r, ticks, got, e, want)
			}
		}
	}
}

// FuzzRamp: at all numbers: what may be is as it should be, and all else is refused.
func FuzzRamp(f *testing.F) {
	f.Add(1000, 100, 300, 100, 5, 18)
	f.Add(0, 0, 0, 0, 0, 0)
	f.Add(fast, 1, fast, high, long, math.MaxInt)
	f.Add(math.MinInt, math.MaxInt, -1, math.MinInt, math.MaxInt, math.MinInt)
	f.Fuzz(func(t *testing.T, clock, first, most, rise, steps, tick int) {
		r := of(clock, first, most, rise)
		in := func(x, low, top int) bool { return x >= low && x <= top }
		if !in(clock, 1, fast) || !in(first, 1, clock) || !in(most, 1, clock) || first > most || !in(rise, 0, high) {
			refused(t, r, steps, tick, api.ErrRange, api.ErrRange)
			return
		}
		if !in(steps, 0, long) {
			refused(t, r, steps, max(tick, 0), api.ErrCount, api.OK)
			return
		}
		hold(t, r, steps%500, max(tick, 0))
	})
}
