package ramp

import (
	"iter"

	"workcell/api"
)

// Greatest numbers of a ramp.
const (
	maxClock = 100000000
	maxRise  = 100000
)

// refusal: what is wrong with a ramp of so many steps?
func refusal(r api.Ramp, steps int) api.Errno {
	if !isRamp(r) {
		return api.ErrRange
	}
	if steps < 0 || steps > api.MaxRamp {
		return api.ErrCount
	}
	return api.OK
}

// isRamp: are all numbers of a ramp in their ranges?
func isRamp(r api.Ramp) bool {
	rising := 1 <= r.First && r.First <= r.Most && r.Most <= r.Clock && r.Clock <= maxClock
	return rising && 0 <= r.Rise && r.Rise <= maxRise
}

// speedAt a step that has so many others between it and the nearer end.
func speedAt(r api.Ramp, others int) int { return min(r.First+r.Rise*others, r.Most) }

// speeds of so many steps, one after the other.
func speeds(r api.Ramp, steps int) iter.Seq[int] {
	return func(yield func(int) bool) {
		for i := range steps {
			if !yield(speedAt(r, min(i, steps-1-i))) {
				return
			}
		}
	}
}

// added speeds: a ramp that has one step more is as it was, with that step in its middle; of each such step its speed,
// from a ramp without steps up to the longest.
func added(r api.Ramp) iter.Seq[int] {
	return func(yield func(int) bool) {
		for steps := range api.MaxRamp {
			if !yield(speedAt(r, steps/2)) {
				return
			}
		}
	}
}

// times of steps that are so fast. None is 0: no speed is above the clock.
func times(r api.Ramp, speeds iter.Seq[int]) iter.Seq[int] {
	return func(yield func(int) bool) {
		for speed := range speeds {
			if !yield(r.Clock / speed) {
				return
			}
		}
	}
}

// within so many ticks: how many of the steps that take these times are done, the first ones first?
func within(ticks int, times iter.Seq[int]) int {
	done := 0
	for time := range times {
		if time > ticks {
			break
		}
		ticks -= time
		done++
	}
	return done
}
