package heat_test

import (
	"testing"

	"workcell/api"
	"workcell/heat"
)

// asked of a plate: what stands in calls.
type asked struct {
	t, target, band, ticks, need, most int
}

// refusesTick: does Tick refuse a plate and a heat?
func refusesTick(t *testing.T, h api.Hot, n int, want api.Errno) {
	t.Helper()
	for _, on := range []bool{false, true} {
		if got, e := heat.Tick(h, n, on); got != 0 || e != want {
			t.Errorf("Tick(%v, %d, %v): %d, %v; wanted %v", h, n, on, got, e, want)
		}
	}
}

// refusesBang: does Bang?
func refusesBang(t *testing.T, h api.Hot, a asked, want api.Errno) {
	t.Helper()
	if l, e := heat.Bang(h, a.t, a.target, a.band, a.ticks); len(l) != 0 || e != want {
		t.Errorf("Bang(%v, %v): %v, %v; wanted %v", h, a, l, e, want)
	}
}

// refusesHold: does Hold?
func refusesHold(t *testing.T, h api.Hot, a asked, want api.Errno) {
	t.Helper()
	holds(t, h, a.t, a.target, a.band, a.need, a.most, answer{0, 0, want})
}

// P19.1, P19.2, P19.3: what is no plate is refused by all calls, ahead of all else.
func TestWrongPlates(t *testing.T) {
	for _, h := range wrongPlates() {
		for _, on := range []bool{false, true} {
			if n, e := heat.Rest(h, on); n != 0 || e != api.ErrRange {
				t.Errorf("Rest(%v, %v): %d, %v", h, on, n, e)
			}
		}
		for _, n := range append(wrongHeats(), 0, 500) {
			refusesTick(t, h, n, api.ErrRange)
		}
		for _, a := range []asked{{}, {5, 6, 7, 8, 9, 10}, {t: -1}, {target: hot + 1}, {band: -1, ticks: -1, need: -1, most: -1}, {need: 2, most: 1}} {
			refusesBang(t, h, a, api.ErrRange)
			refusesHold(t, h, a, api.ErrRange)
		}
	}
}

// P19.1, P19.2, P19.3: heats that are none, ahead of what is wrong with counts.
func TestWrongHeats(t *testing.T) {
	for _, h := range append(edgePlates(), even()) {
		for _, n := range wrongHeats() {
			refusesTick(t, h, n, api.ErrRange)
			for _, a := range []asked{
				{t: n}, {target: n}, {t: n, target: n}, {n, 5, 5, 5, 1, 9}, {5, n, 5, 5, 1, 9},
				{n, 5, -1, 5, 1, 9}, {5, n, 5, long + 1, count + 1, 9}, {5, n, 5, -1, 1, -1}, {n, 0, count + 1, least, most, least},
			} {
				refusesBang(t, h, a, api.ErrRange)
				refusesHold(t, h, a, api.ErrRange)
			}
		}
	}
}

// P19.2, P19.3: counts that may not be.
func TestWrongCounts(t *testing.T) {
	for _, h := range append(edgePlates(), even()) {
		for _, n := range wrongCounts(count) {
			refusesBang(t, h, asked{band: n}, api.ErrCount)
			refusesBang(t, h, asked{5, 6, n, 7, 0, 0}, api.ErrCount)
			for _, a := range []asked{{band: n}, {need: n}, {most: n}, {5, 6, n, 0, 1, 9}, {5, 6, 5, 0, n, 9}, {5, 6, 5, 0, 1, n}, {5, 6, 5, 0, 0, n}, {5, 6, n, 0, 0, 9}, {5, 6, n, 0, n, n}} {
				refusesHold(t, h, a, api.ErrCount)
			}
		}
		for _, n := range append(wrongCounts(long), count) {
			refusesBang(t, h, asked{ticks: n}, api.ErrCount)
			refusesBang(t, h, asked{5, 6, 7, n, 0, 0}, api.ErrCount)
			refusesBang(t, h, asked{5, 6, -1, n, 0, 0}, api.ErrCount)
		}
	}
}

// P19.1, P19.2, P19.3: what is just within all bounds is not refused.
func TestEdges(t *testing.T) {
	for _, h := range append(edgePlates(), even()) {
		for _, n := range []int{0, 1, hot - 1, hot} {
			for _, on := range []bool{false, true} {
				if _, e := heat.Tick(h, n, on); e != api.OK {
					t.Errorf("Tick(%v, %d, %v): %v", h, n, on, e)
				}
				if _, e := heat.Rest(h, on); e != api.OK {
					t.Errorf("Rest(%v, %v): %v", h, on, e)
				}
			}
			for _, ticks := range []int{0, 1, long} {
				for _, band := range []int{0, count} {
					if l, e := heat.Bang(h, n, hot-n, band, ticks); len(l) != ticks || e != api.OK {
						t.Errorf("Bang(%v, %d, %d, %d, %d): %d, %v", h, n, hot-n, band, ticks, len(l), e)
					}
					if _, _, e := heat.Hold(h, n, hot-n, band, 1, ticks); e != api.OK && e != api.ErrFault {
						t.Errorf("Hold(%v, %d, %d, %d, 1, %d): %v", h, n, hot-n, band, ticks, e)
					}
				}
			}
		}
	}
}
