package ramp_test

import (
	"slices"
	"testing"

	"workcell/api"
	"workcell/ramp"
)

// P14.1: speeds, ticks and all of them, by hand.
func TestSpeeds(t *testing.T) {
	for _, c := range []struct {
		r             api.Ramp
		steps         int
		speeds, ticks []int
	}{
		// The chapter's.
		{told(), 5, []int{100, 200, 300, 200, 100}, []int{10, 5, 3, 5, 10}},
		{told(), 0, nil, nil},
		{told(), 1, []int{100}, []int{10}},
		{told(), 2, []int{100, 100}, []int{10, 10}},
		{told(), 3, []int{100, 200, 100}, []int{10, 5, 10}},
		{told(), 4, []int{100, 200, 200, 100}, []int{10, 5, 5, 10}},
		// No faster than at most.
		{told(), 7, []int{100, 200, 300, 300, 300, 200, 100}, []int{10, 5, 3, 3, 3, 5, 10}},
		{told(), 8, []int{100, 200, 300, 300, 300, 300, 200, 100}, []int{10, 5, 3, 3, 3, 3, 5, 10}},
		{of(1000, 100, 299, 100), 5, []int{100, 200, 299, 200, 100}, []int{10, 5, 3, 5, 10}},
		{of(1000, 100, 301, 100), 5, []int{100, 200, 300, 200, 100}, []int{10, 5, 3, 5, 10}},
		{of(1000, 100, 250, 100), 6, []int{100, 200, 250, 250, 200, 100}, []int{10, 5, 4, 4, 5, 10}},
		{of(1000, 100, 100, 100), 3, []int{100, 100, 100}, []int{10, 10, 10}},
		{of(1000, 100, 101, high), 3, []int{100, 101, 100}, []int{10, 9, 10}},
		// No rise.
		{of(1000, 100, 300, 0), 4, []int{100, 100, 100, 100}, []int{10, 10, 10, 10}},
		// What is cut off.
		{of(999, 100, 999, 100), 4, []int{100, 200, 200, 100}, []int{9, 4, 4, 9}},
		{of(11, 4, 6, 1), 5, []int{4, 5, 6, 5, 4}, []int{2, 2, 1, 2, 2}},
		// The least and the greatest.
		{of(1, 1, 1, 0), 2, []int{1, 1}, []int{1, 1}},
		{of(1, 1, 1, high), 3, []int{1, 1, 1}, []int{1, 1, 1}},
		{of(fast, 1, fast, high), 3, []int{1, high + 1, 1}, []int{fast, 999, fast}},
		{of(fast, fast, fast, high), 3, []int{fast, fast, fast}, []int{1, 1, 1}},
		{of(fast, fast-1, fast, 1), 4, []int{fast - 1, fast, fast, fast - 1}, []int{1, 1, 1, 1}},
		{of(fast, 1, 1, high), 2, []int{1, 1}, []int{fast, fast}},
	} {
		if got, e := ramp.Speeds(c.r, c.steps); !slices.Equal(got, c.speeds) || e != api.OK {
			t.Errorf("Speeds(%v, %d): %v, %v; wanted %v", c.r, c.steps, got, e, c.speeds)
		}
		if got, e := ramp.Ticks(c.r, c.steps); !slices.Equal(got, c.ticks) || e != api.OK {
			t.Errorf("Ticks(%v, %d): %v, %v; wanted %v", c.r, c.steps, got, e, c.ticks)
		}
		if got, e := ramp.Total(c.r, c.steps); got != sum(c.ticks) || e != api.OK {
			t.Errorf("Total(%v, %d): %v, %v; wanted %v", c.r, c.steps, got, e, sum(c.ticks))
		}
	}
}

// P14.1: as many steps as there may be.
func TestSpeedsOfTheLongest(t *testing.T) {
	r := of(fast, 1, fast, high)
	l, e := ramp.Speeds(r, long)
	if len(l) != long || e != api.OK || !same(l) || !slices.IsSorted(l[:long/2]) {
		t.Fatalf("%d speeds, %v", len(l), e)
	}
	if l[1] != high+1 || l[999] != 99900001 || l[1000] != fast || l[long/2] != fast {
		t.Error(l[1], l[999], l[1000], l[long/2])
	}
	if got := total(t, of(fast, 1, 1, high), long); got != fast*long {
		t.Errorf("the slowest of all: %d", got)
	}
	if got := total(t, of(fast, fast, fast, high), long); got != long {
		t.Errorf("the fastest of all: %d", got)
	}
	l, e = ramp.Speeds(of(fast, 1, fast, 1), long)
	if len(l) != long || e != api.OK || l[long/2-1] != long/2 || l[long/2] != long/2 || l[long-1] != 1 {
		t.Errorf("%d speeds, %v", len(l), e)
	}
	l, e = ramp.Speeds(of(fast, 1, fast, 1), long-1)
	if len(l) != long-1 || e != api.OK || l[long/2-1] != long/2 || l[long/2] != long/2-1 || l[long-2] != 1 {
		t.Errorf("%d speeds, %v", len(l), e)
	}
}

// P14.1: answers are new memory, spare room too.
func TestNewMemory(t *testing.T) {
	for _, call := range []func(api.Ramp, int) ([]int, api.Errno){ramp.Speeds, ramp.Ticks} {
		first, _ := call(told(), 5)
		want := slices.Clone(first)
		second, _ := call(told(), 5)
		second = second[:cap(second)]
		for i := range second {
			second[i] = -7
		}
		third, _ := call(told(), 5)
		if !slices.Equal(first, want) || !slices.Equal(third, want) {
			t.Error(first, third, want)
		}
	}
}
