package ramp_test

import (
	"math"
	"testing"

	"workcell/api"
	"workcell/ramp"
)

// refused by all calls alike? Longest knows of no steps.
func refused(t *testing.T, r api.Ramp, steps, tick int, all, longest api.Errno) {
	t.Helper()
	if l, e := ramp.Speeds(r, steps); len(l) != 0 || e != all {
		t.Errorf("Speeds(%v, %d): %v, %v; wanted %v", r, steps, l, e, all)
	}
	if l, e := ramp.Ticks(r, steps); len(l) != 0 || e != all {
		t.Errorf("Ticks(%v, %d): %v, %v; wanted %v", r, steps, l, e, all)
	}
	if n, e := ramp.Total(r, steps); n != 0 || e != all {
		t.Errorf("Total(%v, %d): %d, %v; wanted %v", r, steps, n, e, all)
	}
	if n, e := ramp.At(r, steps, tick); n != 0 || e != all {
		t.Errorf("At(%v, %d, %d): %d, %v; wanted %v", r, steps, tick, n, e, all)
	}
	if n, e := ramp.Longest(r, tick); e != longest || e != api.OK && n != 0 {
		t.Errorf("Longest(%v, %d): %d, %v; wanted %v", r, tick, n, e, longest)
	}
}

// P14.1, P14.2: numbers out of their ranges are refused ahead of all else, and those at the edges not.
func TestRange(t *testing.T) {
	for _, r := range []api.Ramp{
		{},
		of(0, 1, 1, 0), of(0, 0, 0, 0), of(-1, -1, -1, 0), of(-1, 1, 1, 0), of(fast+1, 1, 1, 0), of(math.MaxInt, 1, 1, 0), of(math.MinInt, 1, 1, 0),
		of(10, 0, 1, 0), of(10, 0, 0, 0), of(10, -1, 5, 0), of(10, math.MinInt, 5, 0), of(10, 11, 11, 0), of(10, 11, 10, 0), of(10, math.MaxInt, math.MaxInt, 0),
		of(10, 1, 0, 0), of(10, 1, -1, 0), of(10, 1, 11, 0), of(10, 1, math.MaxInt, 0), of(10, 1, math.MinInt, 0), of(10, -5, -1, 0),
		of(10, 6, 5, 0), of(10, 10, 9, 0), of(10, 2, 1, 0),
		of(10, 1, 10, -1), of(10, 1, 10, high+1), of(10, 1, 10, math.MaxInt), of(10, 1, 10, math.MinInt),
		of(fast+1, fast+1, fast+1, 0),
	} {
		for _, steps := range []int{0, 3, -1, long + 1} {
			for _, tick := range []int{0, 5, -1} {
				refused(t, r, steps, tick, api.ErrRange, api.ErrRange)
			}
		}
	}
	for _, r := range []api.Ramp{
		of(1, 1, 1, 0), of(1, 1, 1, high), of(fast, 1, 1, 0), of(fast, fast, fast, high), of(fast, 1, fast, 1), of(10, 5, 5, 0), of(10, 10, 10, 0),
	} {
		if _, e := ramp.Speeds(r, 3); e != api.OK {
			t.Errorf("Speeds(%v, 3): %v", r, e)
		}
		if _, e := ramp.Longest(r, 3); e != api.OK {
			t.Errorf("Longest(%v, 3): %v", r, e)
		}
	}
}

// P14.1, P14.2: how many steps there may be, ahead of what At says of ticks.
func TestCount(t *testing.T) {
	for _, steps := range []int{-1, -5, math.MinInt, long + 1, math.MaxInt} {
		refused(t, told(), steps, 5, api.ErrCount, api.OK)
		refused(t, told(), steps, 0, api.ErrCount, api.OK)
		refused(t, told(), steps, -1, api.ErrCount, api.ErrSize)
	}
	for _, steps := range []int{0, 1, long - 1, long} {
		if l, e := ramp.Speeds(told(), steps); len(l) != steps || e != api.OK {
			t.Errorf("Speeds of %d: %d, %v", steps, len(l), e)
		}
		if l, e := ramp.Ticks(told(), steps); len(l) != steps || e != api.OK {
			t.Errorf("Ticks of %d: %d, %v", steps, len(l), e)
		}
		if n, e := ramp.At(told(), steps, math.MaxInt); n != steps || e != api.OK {
			t.Errorf("At of %d: %d, %v", steps, n, e)
		}
		if _, e := ramp.Total(told(), steps); e != api.OK {
			t.Errorf("Total of %d: %v", steps, e)
		}
	}
}

// P14.2: ticks below 0.
func TestSize(t *testing.T) {
	for _, tick := range []int{-1, -2, math.MinInt} {
		for _, steps := range []int{0, 1, long} {
			if n, e := ramp.At(told(), steps, tick); n != 0 || e != api.ErrSize {
				t.Errorf("At %d of %d: %d, %v", tick, steps, n, e)
			}
		}
		if n, e := ramp.Longest(told(), tick); n != 0 || e != api.ErrSize {
			t.Errorf("Longest of %d: %d, %v", tick, n, e)
		}
	}
}
