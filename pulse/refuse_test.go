package pulse_test

import (
	"math"
	"slices"
	"testing"

	"workcell/api"
	"workcell/pulse"
)

// placed: a number, as X, as Y and as Z of a move.
func placed(n int) []api.Point {
	return []api.Point{to(n, 1, 2), to(1, n, 2), to(1, 2, n), to(n, n, n)}
}

// P15.1, P15.3: numbers that are too great, of any sign; ahead of what Curve says of parts.
func TestRange(t *testing.T) {
	for _, n := range []int{far + 1, -far - 1, math.MaxInt, math.MinInt, math.MinInt + 1, 1 << 32, 1 << 62} {
		for _, by := range placed(n) {
			if l, e := pulse.Line(by); len(l) != 0 || e != api.ErrRange {
				t.Errorf("Line(%v): %d pulses, %v", by, len(l), e)
			}
			for _, parts := range []int{1, most, 0, -1, most + 1} {
				if l, e := pulse.Curve(by, parts); len(l) != 0 || e != api.ErrRange {
					t.Errorf("Curve(%v, %d): %v, %v", by, parts, l, e)
				}
			}
		}
	}
	for _, n := range []int{far, -far} {
		for _, by := range placed(n) {
			if l, e := pulse.Line(by); len(l) != far || e != api.OK {
				t.Errorf("Line(%v): %d pulses, %v", by, len(l), e)
			}
			if l, e := pulse.Curve(by, 3); len(l) != 3 || e != api.OK {
				t.Errorf("Curve(%v, 3): %v, %v", by, l, e)
			}
		}
	}
}

// P15.3: how many parts there may be.
func TestParts(t *testing.T) {
	for _, parts := range []int{0, -1, math.MinInt, most + 1, math.MaxInt} {
		for _, by := range []api.Point{{}, to(4, 2, 0), to(far, far, far)} {
			if l, e := pulse.Curve(by, parts); len(l) != 0 || e != api.ErrCount {
				t.Errorf("Curve(%v, %d): %v, %v", by, parts, l, e)
			}
		}
	}
	for _, parts := range []int{1, 2, most - 1, most} {
		if l := curve(t, to(4, 2, 0), parts); len(l) != parts {
			t.Errorf("%d parts, wanted %d", len(l), parts)
		}
	}
}

// refused by Sum and Places alike?
func refused(t *testing.T, l []api.Pulse, want api.Errno) {
	t.Helper()
	if p, e := pulse.Sum(l); p != (api.Point{}) || e != want {
		t.Errorf("Sum(%d pulses): %v, %v; wanted %v", len(l), p, e, want)
	}
	if p, e := pulse.Places(l); len(p) != 0 || e != want {
		t.Errorf("Places(%d pulses): %d places, %v; wanted %v", len(l), len(p), e, want)
	}
}

// mayBe: is it from 0 to 63, and none that goes downwards without a step?
func mayBe(p api.Pulse) bool {
	for axis := 1; axis <= 4; axis *= 2 {
		if p/axis%2 == 0 && p/axis/8%2 == 1 {
			return false
		}
	}
	return p >= 0 && p < 64
}

// P15.2: what is no pulse, first, last and between.
func TestForm(t *testing.T) {
	wrong := []api.Pulse{math.MinInt, math.MinInt + 1, math.MaxInt, -64, 1 << 32, 1<<32 + 1, 127, 1<<62 + 1}
	for p := -70; p < 140; p++ {
		if !mayBe(p) {
			wrong = append(wrong, p)
			continue
		}
		if _, e := pulse.Sum([]int{p}); e != api.OK {
			t.Errorf("Sum(%d): %v", p, e)
		}
		if _, e := pulse.Places([]int{p}); e != api.OK {
			t.Errorf("Places(%d): %v", p, e)
		}
	}
	if n := 70 + 140 - 27 + 8; len(wrong) != n { // each axis: not, up, or down
		t.Errorf("%d are wrong, not %d", len(wrong), n)
	}
	for _, p := range wrong {
		refused(t, []int{p}, api.ErrForm)
		refused(t, []int{p, 1, 3}, api.ErrForm)
		refused(t, []int{1, p, 3}, api.ErrForm)
		refused(t, []int{1, 3, p}, api.ErrForm)
	}
}

// P15.2: how many pulses there may be, ahead of what they are.
func TestCount(t *testing.T) {
	refused(t, slices.Repeat([]int{1}, far+1), api.ErrCount)
	refused(t, slices.Repeat([]int{64}, far+1), api.ErrCount)
	refused(t, slices.Repeat([]int{-1}, 2*far), api.ErrCount)
	refused(t, append(slices.Repeat([]int{1}, far), 8), api.ErrCount)
	refused(t, append(slices.Repeat([]int{1}, far-1), 8), api.ErrForm)
	full := slices.Repeat([]int{9 | 2}, far)
	if p, e := pulse.Sum(full); p != to(-far, far, 0) || e != api.OK {
		t.Errorf("Sum(%d pulses): %v, %v", far, p, e)
	}
	if p, e := pulse.Places(full); len(p) != far || p[far-1] != to(-far, far, 0) || e != api.OK {
		t.Errorf("Places(%d pulses): %d, %v", far, len(p), e)
	}
}
