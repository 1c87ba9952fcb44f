package link_test

import (
	"math"
	"runtime"
	"slices"
	"sync"
	"testing"
	"time"

	"workcell/api"
	"workcell/link"
)

// P17.1: the chapter's own.
func TestExample(t *testing.T) {
	script, e := link.Script("x . a")
	if !slices.Equal(script, []int{1, 0, 2}) || e != api.OK {
		t.Fatal(script, e)
	}
	sends(t, grabs(0, 3), script, 1, 3, 5, api.OK)
}

// P17.1: what is taken of some lines, and how many sendings there are.
func TestSend(t *testing.T) {
	for _, c := range []struct {
		lines  int
		script []int
		retry  int
		taken  int
		sent   int
		want   api.Errno
	}{
		{0, nil, 0, 0, 0, api.OK},
		{0, []int{1, 1, 1}, 0, 0, 0, api.OK},
		{1, nil, 0, 1, 1, api.OK},
		{3, nil, 0, 3, 3, api.OK},
		{3, []int{}, 100, 3, 3, api.OK},
		{3, []int{0, 0, 0, 1, 1}, 0, 3, 3, api.OK},
		// A line is lost.
		{1, []int{1}, 0, 0, 1, api.ErrFault},
		{1, []int{1}, 1, 1, 2, api.OK},
		{1, []int{1, 1}, 1, 0, 2, api.ErrFault},
		{1, []int{1, 1}, 2, 1, 3, api.OK},
		{3, []int{0, 1}, 0, 1, 2, api.ErrFault},
		{3, []int{0, 0, 1}, 0, 2, 3, api.ErrFault},
		{3, []int{1, 0, 1, 0, 1, 0}, 1, 3, 6, api.OK},
		{3, []int{1, 0, 1, 1, 0}, 1, 1, 4, api.ErrFault},
		// A line is taken, but its answer is lost.
		{1, []int{2}, 0, 1, 1, api.ErrFault},
		{1, []int{2}, 1, 1, 2, api.OK},
		{2, []int{2}, 0, 1, 1, api.ErrFault},
		{2, []int{2, 2}, 1, 1, 2, api.ErrFault},
		{2, []int{2, 2, 2}, 5, 2, 5, api.OK},
		{2, []int{2, 1, 1}, 2, 1, 3, api.ErrFault},
		{2, []int{1, 2, 1}, 2, 1, 3, api.ErrFault},
		{2, []int{1, 1, 2}, 2, 1, 3, api.ErrFault},
		{2, []int{1, 2, 0, 2, 1, 0}, 2, 2, 6, api.OK},
		{3, []int{0, 2, 1}, 1, 2, 3, api.ErrFault},
		{3, []int{0, 0, 2}, 0, 3, 3, api.ErrFault},
		// A bit is turned.
		{1, []int{3}, 0, 0, 1, api.ErrFault},
		{1, []int{3}, 1, 1, 2, api.OK},
		{3, []int{0, 4, 99999}, 1, 1, 3, api.ErrFault},
		{3, []int{0, 4, 99999}, 2, 3, 5, api.OK},
		{2, []int{2, 17, 0}, 1, 1, 2, api.ErrFault},
		{2, []int{2, 17, 0}, 2, 2, 4, api.OK},
		{2, []int{math.MaxInt, math.MaxInt - 1, 1 << 32}, 3, 2, 5, api.OK},
	} {
		for _, from := range []int{0, 1, 4, 9, last + 1 - max(1, c.lines)} {
			sends(t, grabs(from, c.lines), c.script, c.retry, c.taken, c.sent, c.want)
		}
	}
}

// P17.1: how often a line is sent: retry times more.
func TestRetry(t *testing.T) {
	for _, fate := range []int{1, 2, 3, 50} {
		for retry := range again + 1 {
			taken := 0
			if fate == 2 {
				taken = 1
			}
			sends(t, grabs(7, 2), slices.Repeat([]int{fate}, retry+1), retry, taken, retry+1, api.ErrFault)
			sends(t, grabs(7, 2), slices.Repeat([]int{fate}, retry), retry, 2, retry+2, api.OK)
		}
	}
}

// P17.1: whichever bit of a line is turned, it is not taken.
func TestTurned(t *testing.T) {
	d := die(1)
	for range 40 {
		lines := d.row(d.n(last), 1)
		for bit := range 8*len(lines[0]) + 8 {
			sends(t, lines, []int{3 + bit}, 0, 0, 1, api.ErrFault)
			sends(t, lines, []int{3 + bit, 3 + d.n(math.MaxInt-3)}, 2, 1, 3, api.OK)
		}
	}
}

// P17.1: the most lines and numbers there may be.
func TestMost(t *testing.T) {
	d := die(2)
	for _, from := range []int{0, 1, last + 1 - most} {
		lines := d.row(from, most)
		sends(t, lines, nil, 0, most, most, api.OK)
		sends(t, lines, make([]int, most), again, most, most, api.OK)
		sends(t, lines, slices.Repeat([]int{1, 2, 77, 0}, most/4), 3, most, most+most/4*3, api.OK)
		sends(t, lines, append(make([]int, most-1), 1), 0, most-1, most, api.ErrFault)
	}
	sends(t, grabs(5, 1), slices.Repeat([]int{2}, most), again, 1, again+1, api.ErrFault)
}

// P17.1: what is handed in stays as it is, spare room too; and answers share nothing.
func TestMemory(t *testing.T) {
	d := die(3)
	lines, script := d.row(3, 30), slices.Repeat([]int{0, 1, 2, 40}, 10)
	keptLines, keptScript := slices.Clone(lines), slices.Clone(script)
	first, n, e := link.Send(lines[:20], script[:17], 4)
	second, m, f := link.Send(lines[:20], script[:17], 4)
	if n != m || e != api.OK || f != api.OK || !slices.Equal(first, second) {
		t.Fatal(n, m, e, f)
	}
	for i := range first[:cap(first)] {
		first[:cap(first)][i] = "gone"
	}
	link.Worst(script[:17])
	if !slices.Equal(lines, keptLines) || !slices.Equal(script, keptScript) || !slices.Equal(second, keptLines[:20]) {
		t.Error("something has changed")
	}
	one, _ := link.Script("x a . 17")
	other, _ := link.Script("x a . 17")
	for i := range one[:cap(one)] {
		one[:cap(one)][i] = -1
	}
	if !slices.Equal(other, []int{1, 2, 0, 17}) {
		t.Error(other)
	}
}

// P17.1: who hears has gone when the call answers; many calls at one time answer as one does.
func TestManyCalls(t *testing.T) {
	ahead := runtime.NumGoroutine()
	var all sync.WaitGroup
	for i := range 50 {
		all.Go(func() {
			d := die(i)
			for range 50 {
				hold(t, d.row(d.n(1000), d.n(20)), d.script(d.n(30)), d.n(4))
			}
		})
	}
	all.Wait()
	for range 1000 { // one that has told all may need a moment to end
		if runtime.NumGoroutine() <= ahead {
			return
		}
		time.Sleep(time.Millisecond)
	}
	t.Errorf("%d goroutines are left of %d", runtime.NumGoroutine(), ahead)
}
