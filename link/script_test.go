package link_test

import (
	"math"
	"slices"
	"strings"
	"testing"

	"workcell/api"
	"workcell/link"
)

// P17.2: scripts of texts.
func TestScript(t *testing.T) {
	for text, want := range map[string][]int{
		"": nil, " ": nil, "    ": nil,
		".": {0}, "x": {1}, "a": {2}, "3": {3},
		".xa": {0, 1, 2}, "x . a": {1, 0, 2}, "  a   x .  ": {2, 1, 0}, "...": {0, 0, 0},
		"4": {4}, "9": {9}, "10": {10}, "12": {12}, "30": {30}, "100": {100}, "99999": {99999}, "10000": {10000}, "20000": {20000},
		"3 4": {3, 4}, "3    4": {3, 4}, " 17 ": {17}, "99999 99999 3": {99999, 99999, 3},
		"17x": {17, 1}, "x17": {1, 17}, ".3a4x5.": {0, 3, 2, 4, 1, 5, 0}, "3.4": {3, 0, 4}, "a20 3a": {2, 20, 3, 2},
		"..x a 17": {0, 0, 1, 2, 17},
	} {
		if l, e := link.Script(text); !slices.Equal(l, want) || e != api.OK {
			t.Errorf("Script(%q): %v, %v; wanted %v", text, l, e, want)
		}
	}
}

// P17.2: what is no script; wherever it stands.
func TestScriptForm(t *testing.T) {
	for _, wrong := range []string{
		"0", "1", "2", "00", "01", "03", "05", "007", "00003", "000003", "100000", "123456", "1234567890", "99999999999999999999", strings.Repeat("3", 400),
		"b", "X", "A", "-", "-3", "+3", "3-", ",", "3,4", "#", "\t", "\n", "\r", "\r\n", "\x00", "\v", "\xa0", "\u00a0", "\u0663", "\uff13", "\xff", "é", "0x3", "*", "3e1", "3_0",
	} {
		for _, text := range []string{wrong, ". " + wrong, wrong + " x", "17 " + wrong + " 18", "x" + wrong + "a", "  " + wrong, wrong + "  "} {
			if l, e := link.Script(text); len(l) != 0 || e != api.ErrForm {
				t.Errorf("Script(%q): %v, %v", text, l, e)
			}
		}
	}
}

// P17.2: how many numbers there may be; a wrong form is ahead of that, wherever it stands.
func TestScriptSize(t *testing.T) {
	for _, part := range []string{".", "x", "a ", " 3 ", "99999 ", "    x"} {
		full := strings.Repeat(part, most)
		if l, e := link.Script(full); len(l) != most || e != api.OK {
			t.Errorf("%d of %q: %d, %v", most, part, len(l), e)
		}
		for _, more := range []string{".", "x", "a", "3", " 17", strings.Repeat("x ", 5*most)} {
			if l, e := link.Script(full + more); len(l) != 0 || e != api.ErrSize {
				t.Errorf("%d of %q, and %.20q: %d, %v", most, part, more, len(l), e)
			}
		}
		for _, wrong := range []string{"b", ".b", "xxx 2", "...05", strings.Repeat(".", most) + "100000"} {
			if l, e := link.Script(full + wrong); len(l) != 0 || e != api.ErrForm {
				t.Errorf("%d of %q, and %.20q: %d, %v", most, part, wrong, len(l), e)
			}
			if l, e := link.Script(wrong + full + full); len(l) != 0 || e != api.ErrForm {
				t.Errorf("%.20q, and %d of %q: %d, %v", wrong, 2*most, part, len(l), e)
			}
		}
		if l, e := link.Script(full + "   "); len(l) != most || e != api.OK {
			t.Errorf("%d of %q, and blanks: %d, %v", most, part, len(l), e)
		}
	}
}

// P17.2: how many that are not 0 stand one behind the other.
func TestWorst(t *testing.T) {
	for _, c := range []struct {
		script []int
		want   int
	}{
		{nil, 0}, {[]int{}, 0}, {[]int{0}, 0}, {make([]int, most), 0},
		{[]int{1}, 1}, {[]int{2}, 1}, {[]int{3}, 1}, {[]int{math.MaxInt}, 1},
		{[]int{1, 0, 2}, 1}, {[]int{1, 2, 0}, 2}, {[]int{0, 1, 2}, 2}, {[]int{0, 1, 2, 0}, 2}, {[]int{1, 0, 1, 1, 0}, 2},
		{[]int{1, 1, 1, 0, 2, 2}, 3}, {[]int{2, 2, 0, 1, 1, 1}, 3}, {[]int{1, 1, 0, 3, 4, 5, 6, 0, 1, 1, 1}, 4}, {[]int{1, 0, 1, 0, 1}, 1},
		{slices.Repeat([]int{2}, most), most}, {append([]int{0}, slices.Repeat([]int{9}, most-1)...), most - 1},
	} {
		if n, e := link.Worst(c.script); n != c.want || e != api.OK {
			t.Errorf("Worst(%.40v): %d, %v; wanted %d", c.script, n, e, c.want)
		}
	}
}
