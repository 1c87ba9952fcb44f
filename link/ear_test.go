package link

import (
	"math"
	"slices"
	"testing"

	"workcell/api"
	"workcell/code"
)

// numbered line.
func numbered(n int) string {
	line, _ := code.Print(n, api.Command{Kind: api.Grab})
	return line
}

// P17.1: what is heard, whatever a wire could make of what was sent: what is taken, and what is answered.
func TestEar(t *testing.T) {
	e := ear{next: 5}
	for i, c := range []struct {
		line              string
		isTaken, answered bool
	}{
		{"", false, false},
		{"N5 M2*0", false, false},
		{"N5 M2", false, false},
		{numbered(3), false, false},
		{numbered(6), false, false},
		{numbered(4), false, true}, // the number ahead of the first's
		{numbered(5), true, true},
		{numbered(5), false, true},
		{numbered(5), false, true},
		{numbered(4), false, false},
		{numbered(7), false, false},
		{numbered(0), false, false},
		{numbered(100000), false, false},
		{"N6 M2*0", false, false},
		{numbered(6), true, true},
		{numbered(5), false, false},
		{numbered(6), false, true},
		{numbered(7), true, true},
	} {
		ahead := len(e.taken)
		answered := e.take(c.line)
		isTaken := len(e.taken) > ahead
		if isTaken != c.isTaken || answered != c.answered || isTaken && e.taken[ahead] != c.line {
			t.Errorf("%d: %q: taken %v, answered %v", i, c.line, isTaken, answered)
		}
	}
	if want := []string{numbered(5), numbered(6), numbered(7)}; !slices.Equal(e.taken, want) {
		t.Errorf("%q were taken, not %q", e.taken, want)
	}
}

// P17.1: at the greatest number that a line may have there is none behind it.
func TestEarAtTheEnd(t *testing.T) {
	e := ear{next: api.MaxLine}
	for _, isTaken := range []bool{true, false, false} {
		ahead := len(e.taken)
		if !e.take(numbered(api.MaxLine)) || (len(e.taken) > ahead) != isTaken {
			t.Error(e)
		}
	}
}

// P17.1: which bit is turned.
func TestArriving(t *testing.T) {
	for _, c := range []struct {
		fate int
		want string
	}{
		{0, "@@@"}, {2, "@@@"},
		{3, "A@@"}, {4, "B@@"}, {5, "D@@"}, {8, "`@@"}, {9, "\x00@@"}, {10, "\xc0@@"},
		{11, "@A@"}, {18, "@\xc0@"}, {19, "@@A"}, {26, "@@\xc0"},
		{27, "A@@"}, {28, "B@@"}, {35, "@A@"}, {3 + 24*1000 + 17, "@@B"},
		{math.MaxInt, "P@@"}, // bit 4 of the byte 2^60 - 1, of which by 3 nothing is left
	} {
		if got := arriving("@@@", c.fate); got != c.want {
			t.Errorf("%d: %q, wanted %q", c.fate, got, c.want)
		}
	}
}
