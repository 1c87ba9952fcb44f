package pulse_test

import (
	"math"
	"slices"
	"testing"

	"workcell/api"
	"workcell/pulse"
)

// made: what of a number is made in the first k of n, by the chapter's own words.
func made(a, k, n int) int {
	if a < 0 {
		return -made(-a, k, n)
	}
	return (2*k*a + n) / (2 * n)
}

// madeAll of a move.
func madeAll(by api.Point, k, n int) api.Point {
	return to(made(by.X, k, n), made(by.Y, k, n), made(by.Z, k, n))
}

// size of a number.
func size(n int) int { return int(math.Abs(float64(n))) }

// holdLine against the chapter's words, and against what comes of it.
func holdLine(t *testing.T, by api.Point) {
	t.Helper()
	l := line(t, by)
	n := slices.Max([]int{size(by.X), size(by.Y), size(by.Z)})
	if len(l) != n {
		t.Fatalf("Line(%v): %d pulses, wanted %d", by, len(l), n)
	}
	places, e := pulse.Places(l)
	if len(places) != n || e != api.OK {
		t.Fatalf("Places of Line(%v): %d, %v", by, len(places), e)
	}
	for i, p := range places {
		if p != madeAll(by, i+1, n) {
			t.Fatalf("Line(%v): behind tick %d: %v, wanted %v", by, i+1, p, madeAll(by, i+1, n))
		}
		near(t, by.X, p.X, i+1, n)
		near(t, by.Y, p.Y, i+1, n)
		near(t, by.Z, p.Z, i+1, n)
	}
	if p, e := pulse.Sum(l); p != by || e != api.OK {
		t.Errorf("Sum of Line(%v): %v, %v", by, p, e)
	}
}

// near: no further than half a step from the straight line?
func near(t *testing.T, by, at, tick, n int) {
	t.Helper()
	if off := size(at*n - by*tick); 2*off > n {
		t.Errorf("by %d in %d ticks: %d at %d", by, n, at, tick)
	}
}

// holdCurve against the chapter's words.
func holdCurve(t *testing.T, by api.Point, parts int) {
	t.Helper()
	l := curve(t, by, parts)
	if len(l) != parts || added(l) != by {
		t.Fatalf("Curve(%v, %d): %d parts, in all %v", by, parts, len(l), added(l))
	}
	for k := range l {
		if got, want := added(l[:k+1]), madeAll(by, k+1, parts); got != want {
			t.Fatalf("Curve(%v, %d): the first %d: %v, wanted %v", by, parts, k+1, got, want)
		}
	}
}

// holdPulses that may be: places against single bits, one after the other.
func holdPulses(t *testing.T, l []api.Pulse) {
	t.Helper()
	var at api.Point
	want := make([]api.Point, len(l))
	for i, p := range l {
		for bit, number := range []*int{&at.X, &at.Y, &at.Z} {
			switch up, down := p&(1<<bit) != 0, p&(8<<bit) != 0; {
			case down:
				*number--
			case up:
				*number++
			}
		}
		want[i] = at
	}
	if got, e := pulse.Places(l); !slices.Equal(got, want) || e != api.OK {
		t.Errorf("Places(%v): %v, %v; wanted %v", l, got, e, want)
	}
	if got, e := pulse.Sum(l); got != at || e != api.OK {
		t.Errorf("Sum(%v): %v, %v; wanted %v", l, got, e, at)
	}
}

// P15.1, P15.2, P15.3: drawn moves and pulses.
func TestDrawn(t *testing.T) {
	d := die(15)
	for range 3000 {
		by := d.move()
		holdLine(t, by)
		holdCurve(t, by, 1+d.n(pick(&d, 1, 4, 9, 60)))
		holdPulses(t, d.pulses(d.n(pick(&d, 2, 9, 60))))
	}
}

// P15.1, P15.2, P15.3: all short moves.
func TestShort(t *testing.T) {
	for x := -7; x <= 7; x++ {
		for y := -7; y <= 7; y++ {
			for z := -7; z <= 7; z++ {
				by := to(x, y, z)
				holdLine(t, by)
				holdCurve(t, by, 1+size(x+2*y+3*z))
			}
		}
	}
}

// P15.1, P15.3: long moves.
func TestLong(t *testing.T) {
	d := die(16)
	for range 20 {
		by := to(d.within(far), d.within(far), d.within(far))
		holdLine(t, by)
		holdCurve(t, by, pick(&d, most, 1+d.n(most)))
	}
}

// P15.2: pulses that are handed in stay as they are, their spare room too; and answers share nothing.
func TestMemory(t *testing.T) {
	d := die(17)
	room := d.pulses(40)
	kept := slices.Clone(room)
	l := room[:30]
	first, _ := pulse.Places(l)
	second, _ := pulse.Places(l)
	want := slices.Clone(second)
	pulse.Sum(l)
	for i := range first[:cap(first)] {
		first[:cap(first)][i] = to(-99, -99, -99)
	}
	if !slices.Equal(room, kept) || !slices.Equal(second, want) {
		t.Error("pulses or places have changed")
	}
	by := to(9, -5, 3)
	a, b := line(t, by), line(t, by)
	c, e := curve(t, by, 9), curve(t, by, 9)
	a, c = a[:cap(a)], c[:cap(c)]
	for i := range a {
		a[i] = 77
	}
	for i := range c {
		c[i] = to(77, 77, 77)
	}
	if end, _ := pulse.Sum(b); end != by || added(e) != by {
		t.Error("answers share something")
	}
}

// FuzzPulse: at all numbers: what may be is as it should be, and all else is refused.
func FuzzPulse(f *testing.F) {
	f.Add(4, 2, 0, 3, []byte{3, 1, 3, 1})
	f.Add(0, 0, 0, 0, []byte{})
	f.Add(far, -far, 1, most, []byte{0, 63, 64, 8})
	f.Add(math.MinInt, math.MaxInt, -1, most+1, []byte{255})
	f.Fuzz(func(t *testing.T, x, y, z, parts int, bits []byte) {
		fuzzMove(t, to(x, y, z), parts)
		l, may := make([]api.Pulse, len(bits)), true
		for i, b := range bits {
			l[i] = int(int8(b))
			may = may && mayBe(l[i])
		}
		switch {
		case len(l) > far:
			refused(t, l, api.ErrCount)
		case !may:
			refused(t, l, api.ErrForm)
		default:
			holdPulses(t, l)
		}
	})
}

// fuzzMove: a move of any numbers, in any number of parts.
func fuzzMove(t *testing.T, by api.Point, parts int) {
	for _, n := range []int{by.X, by.Y, by.Z} {
		if n < -far || n > far {
			if l, e := pulse.Line(by); len(l) != 0 || e != api.ErrRange {
				t.Errorf("Line(%v): %d pulses, %v", by, len(l), e)
			}
			if l, e := pulse.Curve(by, parts); len(l) != 0 || e != api.ErrRange {
				t.Errorf("Curve(%v, %d): %d parts, %v", by, parts, len(l), e)
			}
			return
		}
	}
	holdLine(t, by)
	if parts >= 1 && parts <= most {
		holdCurve(t, by, parts)
	} else if l, e := pulse.Curve(by, parts); len(l) != 0 || e != api.ErrCount {
		t.Errorf("Curve(%v, %d): %d parts, %v", by, parts, len(l), e)
	}
}
