package ramp_test

import (
	"slices"
	"testing"

	"workcell/api"
	"workcell/ramp"
)

// Greatest numbers of a ramp, and of its steps.
const (
	fast = 100000000
	high = 100000
	long = api.MaxRamp
)

// die: numbers that look drawn, the same each time.
type die uint64

func (d *die) n(most int) int {
	*d = *d*6364136223846793005 + 1442695040888963407
	return int(uint64(*d>>33) % uint64(most))
}

// pick one of some.
func pick[T any](d *die, some ...T) T { return some[d.n(len(some))] }

// of four numbers: a ramp.
func of(clock, first, most, rise int) api.Ramp {
	return api.Ramp{Clock: clock, First: first, Most: most, Rise: rise}
}

// told: the chapter's own ramp.
func told() api.Ramp { return of(1000, 100, 300, 100) }

// drawn ramp, of small numbers or of great ones; it may be.
func (d *die) drawn() api.Ramp {
	clock := 1 + d.n(pick(d, 1, 5, 3000, fast))
	most := 1 + d.n(clock)
	return of(clock, 1+d.n(most), most, d.n(pick(d, 1, 3, 80, high+1)))
}

// sum of numbers.
func sum(l []int) int {
	all := 0
	for _, x := range l {
		all += x
	}
	return all
}

// total of a ramp that may be.
func total(t *testing.T, r api.Ramp, steps int) int {
	t.Helper()
	all, e := ramp.Total(r, steps)
	if e != api.OK {
		t.Fatalf("Total(%v, %d): %v", r, steps, e)
	}
	return all
}

// same forwards and backwards?
func same(l []int) bool {
	back := slices.Clone(l)
	slices.Reverse(back)
	return slices.Equal(l, back)
}
