package heat_test

import (
	"math"
	"slices"
	"testing"

	"workcell/api"
	"workcell/heat"
)

// Greatest numbers, and the least and the greatest of all.
const (
	hot   = 1000000
	gains = 100000
	half  = 512
	count = 100000
	long  = api.MaxHeats
	least = math.MinInt
	most  = math.MaxInt
)

// die: numbers that look drawn, the same each time.
type die uint64

func (d *die) n(most int) int {
	*d = *d*6364136223846793005 + 1442695040888963407
	return int(uint64(*d>>33) % uint64(most))
}

// pick one of some.
func pick[T any](d *die, some ...T) T { return some[d.n(len(some))] }

// of four numbers: a plate.
func of(gain, loss, around, most int) api.Hot {
	return api.Hot{Gain: gain, Loss: loss, Around: around, Most: most}
}

// even plate: when it is on, it gets warmer by 10 in a tick; else it loses a fourth.
func even() api.Hot { return of(10, 256, 0, 1000) }

// drawn plate, of small numbers or of great ones; it may be.
func (d *die) drawn() api.Hot {
	most := d.n(pick(d, 1, 20, 3000, hot+1))
	around := pick(d, 0, most, d.n(most+1))
	return of(d.n(pick(d, 1, 5, 300, gains+1)), d.n(pick(d, 1, 4, 60, half+1)), around, most)
}

// tick of a plate that may be.
func tick(t *testing.T, h api.Hot, n int, on bool) int {
	t.Helper()
	got, e := heat.Tick(h, n, on)
	if e != api.OK {
		t.Fatalf("Tick(%v, %d, %v): %v", h, n, on, e)
	}
	return got
}

// ticks: does a tick lead there?
func ticks(t *testing.T, h api.Hot, n int, on bool, want int) {
	t.Helper()
	if got, e := heat.Tick(h, n, on); got != want || e != api.OK {
		t.Errorf("Tick(%v, %d, %v): %d, %v; wanted %d", h, n, on, got, e, want)
	}
}

// rests: does a plate stay there?
func rests(t *testing.T, h api.Hot, on bool, want int) {
	t.Helper()
	if got, e := heat.Rest(h, on); got != want || e != api.OK {
		t.Errorf("Rest(%v, %v): %d, %v; wanted %d", h, on, got, e, want)
	}
}

// bangs: are these the heats?
func bangs(t *testing.T, h api.Hot, n, target, band int, want ...int) {
	t.Helper()
	if got, e := heat.Bang(h, n, target, band, len(want)); !slices.Equal(got, want) || e != api.OK {
		t.Errorf("Bang(%v, %d, %d, %d, %d): %v, %v; wanted %v", h, n, target, band, len(want), got, e, want)
	}
}

// answer of Hold.
type answer struct {
	used, last int
	e          api.Errno
}

// holds: is this what Hold tells?
func holds(t *testing.T, h api.Hot, n, target, band, need, most int, want answer) {
	t.Helper()
	used, last, e := heat.Hold(h, n, target, band, need, most)
	if got := (answer{used, last, e}); got != want {
		t.Errorf("Hold(%v, %d, %d, %d, %d, %d): %v; wanted %v", h, n, target, band, need, most, got, want)
	}
}

// wrongPlates: each has numbers that no plate has.
func wrongPlates() []api.Hot {
	l := []api.Hot{
		of(gains+1, 0, 0, 1000), of(0, half+1, 0, 1000), of(0, 1024, 0, 1000), of(0, 0, 0, hot+1), of(0, 0, hot+1, hot+1), of(0, 0, hot, hot+1),
		of(0, 0, 1, 0), of(0, 0, 1001, 1000), of(0, 0, hot, hot-1), of(0, 0, hot+1, hot), // Around above Most
	}
	for _, n := range []int{-1, least, most} {
		l = append(l, of(n, 0, 0, 1000), of(0, n, 0, 1000), of(0, 0, n, 1000), of(0, 0, 0, n), of(0, 0, n, n), of(n, n, n, n))
	}
	return l
}

// edgePlates: numbers that are just what they may be.
func edgePlates() []api.Hot {
	return []api.Hot{
		{}, of(gains, 0, 0, 0), of(0, half, 0, 0), of(0, 0, 0, hot), of(0, 0, hot, hot), of(gains, half, hot, hot), of(gains, half, 0, hot),
		of(gains, 0, 0, hot), of(1, 0, 0, hot), of(0, half, hot, hot), of(0, 1, hot, hot), of(1, 1, hot-1, hot), of(5, 5, 1000, 1000),
	}
}

// wrongHeats: no plate has them.
func wrongHeats() []int { return []int{-1, hot + 1, least, most} }

// wrongCounts beyond a most.
func wrongCounts(above int) []int { return []int{-1, above + 1, least, most} }
