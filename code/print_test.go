package code_test

import (
	"math"
	"testing"

	"workcell/api"
	"workcell/code"
)

// checks: does Check say so, and Print, too?
func checks(t *testing.T, c api.Command, want api.Errno) {
	t.Helper()
	if e := code.Check(c); e != want {
		t.Errorf("Check(%v): %v, wanted %v", c, e, want)
	}
	s, e := code.Print(1, c)
	if e != want || (e == api.OK) != (s != "") {
		t.Errorf("Print(1, %v): %q, %v; wanted %v", c, s, e, want)
	}
}

// P16.1: kinds that there are, and all others, ahead of what is wrong with numbers.
func TestKinds(t *testing.T) {
	for kind := 1; kind <= 8; kind++ {
		checks(t, bare(kind), api.OK)
	}
	for _, kind := range []int{0, 9, -1, 10, 1 << 32, 1<<32 + 1, math.MinInt, math.MaxInt} {
		checks(t, bare(kind), api.ErrKind)
		checks(t, with(kind, -1), api.ErrKind)
		checks(t, api.Command{Kind: kind, X: far + 1, Value: 1}, api.ErrKind)
	}
}

// places: a number as X, as Y, as Z of a command.
func places(kind, n int) []api.Command {
	return []api.Command{{Kind: kind, X: n}, {Kind: kind, Y: n}, {Kind: kind, Z: n}}
}

// P16.1: numbers in their ranges, and out of them, whatever use the kind has for them.
func TestRanges(t *testing.T) {
	for _, n := range []int{far, -far, 1, -1, 0} {
		for _, c := range places(api.Go, n) {
			checks(t, c, api.OK)
		}
	}
	for kind := 1; kind <= 8; kind++ {
		for _, n := range []int{far + 1, -far - 1, 1 << 32, math.MaxInt, math.MinInt} {
			for _, c := range places(kind, n) {
				checks(t, c, api.ErrRange)
			}
		}
		for _, n := range []int{-1, full + 1, 1 << 32, math.MaxInt, math.MinInt} {
			checks(t, with(kind, n), api.ErrRange)
		}
	}
	for _, kind := range valued() {
		for _, n := range []int{0, 1, full - 1, full} {
			checks(t, with(kind, n), api.OK)
		}
	}
}

// P16.1: numbers for which a kind has no use; behind those that are out of range.
func TestUseless(t *testing.T) {
	for _, n := range []int{1, -1, far, -far} {
		for _, kind := range append(valued(), idle()...) {
			for _, c := range places(kind, n) {
				checks(t, c, api.ErrForm)
				c.Value = -1
				checks(t, c, api.ErrRange)
			}
		}
	}
	for _, kind := range append(idle(), api.Go) {
		checks(t, with(kind, 1), api.ErrForm)
		checks(t, with(kind, full), api.ErrForm)
		checks(t, api.Command{Kind: kind, X: far + 1, Value: 1}, api.ErrRange)
	}
	checks(t, api.Command{Kind: api.Go, X: 1, Y: 2, Z: 3, Value: 4}, api.ErrForm)
	checks(t, api.Command{Kind: api.Plug, Z: 3, Value: 4}, api.ErrForm)
}

// P16.1: the words of each kind, and sums that are worked out by hand.
func TestPrint(t *testing.T) {
	for _, c := range []struct {
		n    int
		c    api.Command
		want string
	}{
		{7, to(1, -2, 3), "N7 G1 X1 Y-2 Z3*73"}, // the chapter's own
		{0, bare(api.Home), summed("N0 G28")},
		{1, bare(api.Home), "N1 G28*18"},
		{1, bare(api.Grab), "N1 M2*32"},
		{2, bare(api.Eject), "N2 M3*34"},
		{10, to(0, 0, 0), summed("N10 G1 X0 Y0 Z0")},
		{last, to(far, -far, -1), summed("N100000 G1 X10000000 Y-10000000 Z-1")},
		{3, with(api.Plug, 0), summed("N3 M1 S0")},
		{3, with(api.Plug, full), summed("N3 M1 S1000000000")},
		{44, with(api.Cook, 310150), summed("N44 M104 S310150")},
		{5, with(api.Rest, 60000), summed("N5 G4 P60000")},
		{66, with(api.Turn, 900), summed("N66 M106 S900")},
	} {
		if s, e := code.Print(c.n, c.c); s != c.want || e != api.OK {
			t.Errorf("Print(%d, %v): %q, %v; wanted %q", c.n, c.c, s, e, c.want)
		}
	}
}

// P16.1: a line's number, ahead of what is wrong with its command.
func TestLineNumber(t *testing.T) {
	for _, n := range []int{-1, last + 1, math.MinInt, math.MaxInt, 1 << 32} {
		for _, c := range []api.Command{bare(api.Home), bare(0), with(api.Plug, -1), with(api.Grab, 1)} {
			if s, e := code.Print(n, c); s != "" || e != api.ErrCount {
				t.Errorf("Print(%d, %v): %q, %v", n, c, s, e)
			}
		}
	}
	for _, n := range []int{0, 1, last} {
		printed(t, n, bare(api.Home))
		for want, c := range map[api.Errno]api.Command{
			api.ErrKind: bare(9), api.ErrRange: with(api.Plug, -1), api.ErrForm: with(api.Grab, 1),
		} {
			if s, e := code.Print(n, c); s != "" || e != want {
				t.Errorf("Print(%d, %v): %q, %v", n, c, s, e)
			}
		}
	}
}
