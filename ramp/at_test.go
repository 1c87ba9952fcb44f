package ramp_test

import (
	"math"
	"testing"

	"workcell/api"
	"workcell/ramp"
)

// P14.2: steps that are done.
func TestAt(t *testing.T) {
	for _, c := range []struct {
		r                 api.Ramp
		steps, tick, want int
	}{
		// Steps are done at 10, 15, 18, 23 and 33.
		{told(), 5, 0, 0}, {told(), 5, 1, 0}, {told(), 5, 9, 0},
		{told(), 5, 10, 1}, {told(), 5, 11, 1}, {told(), 5, 14, 1},
		{told(), 5, 15, 2}, {told(), 5, 17, 2},
		{told(), 5, 18, 3}, {told(), 5, 22, 3},
		{told(), 5, 23, 4}, {told(), 5, 32, 4},
		{told(), 5, 33, 5}, {told(), 5, 34, 5}, {told(), 5, math.MaxInt, 5},
		// Of no steps none is done.
		{told(), 0, 0, 0}, {told(), 0, 1, 0}, {told(), 0, math.MaxInt, 0},
		{told(), 1, 9, 0}, {told(), 1, 10, 1}, {told(), 1, 11, 1},
		// One that is much longer than those behind it.
		{of(fast, 1, fast, high), 3, fast - 1, 0}, {of(fast, 1, fast, high), 3, fast, 1},
		{of(fast, 1, fast, high), 3, fast + 998, 1}, {of(fast, 1, fast, high), 3, fast + 999, 2},
		// The greatest of all.
		{of(fast, 1, 1, 0), long, fast*long - 1, long - 1}, {of(fast, 1, 1, 0), long, fast * long, long},
		{of(1, 1, 1, 0), long, long - 1, long - 1}, {of(1, 1, 1, 0), long, long, long}, {of(1, 1, 1, 0), long, math.MaxInt, long},
	} {
		if got, e := ramp.At(c.r, c.steps, c.tick); got != c.want || e != api.OK {
			t.Errorf("At(%v, %d, %d): %d, %v; wanted %d", c.r, c.steps, c.tick, got, e, c.want)
		}
	}
}

// P14.2: the greatest number of steps.
func TestLongest(t *testing.T) {
	for _, c := range []struct {
		r           api.Ramp
		ticks, want int
	}{
		// Totals are 0, 10, 20, 25, 30, 33, 36, 39 ..
		{told(), 0, 0}, {told(), 9, 0}, {told(), 10, 1}, {told(), 19, 1}, {told(), 20, 2}, {told(), 24, 2},
		{told(), 25, 3}, {told(), 29, 3}, {told(), 30, 4}, {told(), 32, 4}, {told(), 33, 5}, {told(), 35, 5},
		{told(), 36, 6}, {told(), 38, 6}, {told(), 39, 7},
		// No more than there may be.
		{told(), 30 + 3*(long-4) - 1, long - 1}, {told(), 30 + 3*(long-4), long}, {told(), 30 + 3*(long-3), long},
		{told(), math.MaxInt, long},
		{of(1, 1, 1, high), long - 1, long - 1}, {of(1, 1, 1, high), long, long}, {of(1, 1, 1, high), long + 1, long},
		{of(fast, 1, 1, 0), fast*long - 1, long - 1}, {of(fast, 1, 1, 0), fast * long, long},
		{of(fast, 1, 1, 0), fast*(long+1) - 1, long}, {of(fast, 1, 1, 0), fast * (long + 1), long},
		{of(fast, 1, fast, high), fast - 1, 0}, {of(fast, 1, fast, high), 2*fast + 998, 2}, {of(fast, 1, fast, high), 2*fast + 999, 3},
	} {
		if got, e := ramp.Longest(c.r, c.ticks); got != c.want || e != api.OK {
			t.Errorf("Longest(%v, %d): %d, %v; wanted %d", c.r, c.ticks, got, e, c.want)
		}
	}
}
