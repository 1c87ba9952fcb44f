package link_test

import (
	"math"
	"slices"
	"testing"

	"workcell/api"
	"workcell/link"
)

// P17.1: too many lines, ahead of all else.
func TestTooManyLines(t *testing.T) {
	for _, lines := range [][]string{grabs(0, most+1), grabs(0, 2*most), make([]string, most+1)} {
		refuses(t, lines, nil, 0, api.ErrSize)
		refuses(t, lines, []int{-1}, 0, api.ErrSize)
		refuses(t, lines, make([]int, most+1), 0, api.ErrSize)
		refuses(t, lines, nil, -1, api.ErrSize)
	}
}

// P17.1: what is wrong with a script, ahead of what is wrong with retry, and with lines.
func TestWrongScript(t *testing.T) {
	for _, lines := range [][]string{nil, grabs(0, 2), {"x"}, make([]string, most)} {
		for _, retry := range []int{0, again, -1, again + 1} {
			refuses(t, lines, make([]int, most+1), retry, api.ErrSize)
			refuses(t, lines, append(make([]int, most), -1), retry, api.ErrSize)
			refuses(t, lines, slices.Repeat([]int{-1}, most+1), retry, api.ErrSize)
			refuses(t, lines, append(make([]int, most-1), -1), retry, api.ErrRange)
			refuses(t, lines, []int{-1}, retry, api.ErrRange)
			refuses(t, lines, []int{0, 1, math.MinInt, 0}, retry, api.ErrRange)
		}
	}
}

// P17.1: retry out of range, ahead of what is wrong with lines.
func TestWrongRetry(t *testing.T) {
	for _, lines := range [][]string{nil, grabs(0, 2), {"x"}} {
		for _, retry := range []int{-1, again + 1, math.MinInt, math.MaxInt, 1 << 32} {
			refuses(t, lines, nil, retry, api.ErrRange)
			refuses(t, lines, []int{1, 2, 3}, retry, api.ErrRange)
		}
	}
}

// P17.1: what is no line, or has another number; whatever code.Parse says of it, first, last and between.
func TestWrongLines(t *testing.T) {
	wrong := []string{"", "x", "N1 M2", "N1 M2*", "N1 M2*0", "N1 G28*19", "N-1 M2*1", "N01 M2*0", "N1 G28*18\n", " N1 G28*18", "N1 G28*018"}
	for _, n := range []int{0, 1, 2, 3, 4, 6, 10, 100, last} {
		wrong = append(wrong, printed(n, api.Command{Kind: api.Home}))
	}
	for _, line := range wrong {
		for _, script := range [][]int{nil, {1, 1, 1}} {
			refuses(t, append(grabs(11, 2), line), script, 0, api.ErrForm)
			refuses(t, append([]string{line}, grabs(12, 2)...), script, 0, api.ErrForm)
			refuses(t, slices.Insert(grabs(11, 4), 2, line), script, 0, api.ErrForm)
		}
	}
	refuses(t, []string{""}, nil, 0, api.ErrForm)
	refuses(t, make([]string, most), nil, 0, api.ErrForm)
	refuses(t, append(grabs(3, 1), grabs(3, 1)...), nil, 0, api.ErrForm)
	refuses(t, append(grabs(3, 1), grabs(2, 1)...), nil, 0, api.ErrForm)
	refuses(t, append(grabs(3, 1), grabs(5, 1)...), nil, 0, api.ErrForm)
	refuses(t, append(grabs(last, 1), grabs(0, 1)...), nil, 0, api.ErrForm)
	// With their right sums, but with numbers out of range.
	refuses(t, []string{summed("N100001 G28")}, nil, 0, api.ErrForm)
	refuses(t, []string{summed("N-1 G28")}, nil, 0, api.ErrForm)
	refuses(t, []string{summed("N1 M1 S-1")}, nil, 0, api.ErrForm)
	refuses(t, append(grabs(last, 1), summed("N100001 M2")), nil, 0, api.ErrForm)
	sends(t, []string{summed("N1 M1 S1")}, nil, 0, 1, 1, api.OK)
}

// P17.2: what Worst refuses.
func TestWorstRefused(t *testing.T) {
	for _, c := range []struct {
		script []int
		want   api.Errno
	}{
		{make([]int, most+1), api.ErrSize},
		{slices.Repeat([]int{-1}, most+1), api.ErrSize},
		{append(make([]int, most), -1), api.ErrSize},
		{append(make([]int, most-1), -1), api.ErrRange},
		{[]int{-1}, api.ErrRange},
		{[]int{math.MinInt}, api.ErrRange},
		{[]int{1, 1, 0, -7, 0}, api.ErrRange},
	} {
		if n, e := link.Worst(c.script); n != 0 || e != c.want {
			t.Errorf("Worst(%.40v): %d, %v; wanted %v", c.script, n, e, c.want)
		}
	}
}
