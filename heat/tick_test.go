package heat_test

import (
	"testing"

	"workcell/api"
	"workcell/heat"
)

// The chapter's example.
func TestExample(t *testing.T) {
	ticks(t, of(100, 0, 0, 1000), 0, true, 100)
	rests(t, of(100, 0, 0, 1000), true, 1000)
}

// P19.1: what a tick makes of a heat, of a plate that is on, and of one that is off.
func TestTick(t *testing.T) {
	for _, c := range []struct {
		h            api.Hot
		heat, on, by int
	}{
		// Without a loss.
		{of(100, 0, 0, 1000), 0, 100, 0}, {of(100, 0, 0, 1000), 500, 600, 500}, {of(0, 0, 0, 1000), 500, 500, 500},
		{of(100, 0, 700, 1000), 200, 300, 200}, {of(7, 0, 0, hot), hot - 8, hot - 1, hot - 8},
		// Above Around: what goes is rounded towards 0.
		{of(7, 1, 0, 5000), 1023, 1030, 1023}, {of(7, 1, 0, 5000), 1024, 1030, 1023}, {of(7, 1, 0, 5000), 2047, 2053, 2046}, {of(7, 1, 0, 5000), 2048, 2053, 2046},
		{of(7, 3, 300, 5000), 640, 647, 640}, {of(7, 3, 300, 5000), 641, 648, 641}, {of(7, 3, 300, 5000), 642, 648, 641}, {of(7, 3, 300, 5000), 1323, 1328, 1321}, {of(7, 3, 300, 5000), 1324, 1328, 1321},
		{of(0, half, 0, 5000), 1, 1, 1}, {of(0, half, 0, 5000), 2, 1, 1}, {of(0, half, 0, 5000), 3, 2, 2}, {of(0, half, 100, 5000), 1100, 600, 600},
		// As warm as Around.
		{of(7, 500, 300, 5000), 300, 307, 300}, {of(7, half, hot, hot), hot, hot, hot},
		// Below Around: what comes is rounded towards 0, too.
		{of(7, 1, 2000, 5000), 977, 984, 977}, {of(7, 1, 2000, 5000), 976, 984, 977}, {of(7, 1, 2000, 5000), 0, 8, 1}, {of(7, 1, 2048, 5000), 0, 9, 2}, {of(7, 1, 2047, 5000), 0, 8, 1},
		{of(0, half, 100, 5000), 99, 99, 99}, {of(0, half, 100, 5000), 98, 99, 99}, {of(0, half, 100, 5000), 97, 98, 98}, {of(7, half, 100, 5000), 0, 57, 50},
		// At most Most.
		{of(100, 0, 0, 1000), 899, 999, 899}, {of(100, 0, 0, 1000), 900, 1000, 900}, {of(100, 0, 0, 1000), 901, 1000, 901}, {of(100, 0, 0, 1000), 1000, 1000, 1000},
		{of(100, 0, 0, 1000), 1001, 1000, 1000}, {of(100, 0, 0, 1000), hot, 1000, 1000}, {of(0, 512, 0, 1000), 1990, 995, 995}, {of(5, 512, 0, 1000), 1990, 1000, 995}, {of(6, 512, 0, 1000), 1990, 1000, 995},
		{of(0, 512, 0, 0), 1, 0, 0}, {of(9, 512, 0, 0), 0, 0, 0}, {of(9, 0, 0, 0), hot, 0, 0}, {of(gains, half, 0, hot), hot, 600000, 500000}, {of(gains, half, hot, hot), 0, 600000, 500000},
		{of(gains, 0, 0, hot), hot - gains - 1, hot - 1, hot - gains - 1}, {of(gains, 0, 0, hot), hot - gains, hot, hot - gains}, {of(gains, 0, 0, hot), hot, hot, hot},
	} {
		ticks(t, c.h, c.heat, true, c.on)
		ticks(t, c.h, c.heat, false, c.by)
	}
}

// P19.1: the heat at which a plate stays, from 0 on.
func TestRest(t *testing.T) {
	for _, c := range []struct {
		h       api.Hot
		on, off int
	}{
		{api.Hot{}, 0, 0}, {of(5, 5, 0, 0), 0, 0}, {of(0, 0, 700, 1000), 0, 0},
		// Without a loss it gets as warm as it may, however slowly, or never warmer than it was.
		{of(1, 0, 0, hot), hot, 0}, {of(3, 0, 0, hot), hot, 0}, {of(gains, 0, 0, 7), 7, 0}, {of(1, 0, hot, hot), hot, 0},
		// A loss that is rounded to nothing: what is a little below Around stays so.
		{of(0, 1, 1023, 5000), 0, 0}, {of(0, 1, 1024, 5000), 1, 1}, {of(0, 1, 2000, 5000), 977, 977}, {of(0, half, 100, 5000), 99, 99}, {of(0, half, 1, 5000), 0, 0}, {of(0, half, hot, hot), hot - 1, hot - 1},
		// It stays at the first heat at which as much goes as comes, not at a later one.
		{of(1, 1, 0, 5000), 1024, 0}, {of(2, 1, 0, 5000), 2048, 0}, {of(2, 1, 0, 2048), 2048, 0}, {of(2, 1, 0, 2047), 2047, 0}, {of(1, half, 0, 5000), 2, 0}, {of(7, 3, 300, 5000), 2690, 0}, {of(10, 256, 0, 1000), 40, 0},
		{of(100, 512, 50, 1000), 250, 49}, {of(100, 512, 50, 250), 250, 49}, {of(100, 512, 50, 249), 249, 49}, {of(gains, half, hot, hot), hot, hot - 1}, {of(gains, half, 0, hot), 200000, 0}, {of(gains, 100, 0, hot), hot, 0},
		{of(5, 5, 1000, 1000), 1000, 796}, {of(1, 1, 1000, 1000), 1000, 0},
	} {
		rests(t, c.h, true, c.on)
		rests(t, c.h, false, c.off)
	}
}

// P19.1: where a plate stays, a tick changes nothing.
func TestRestStays(t *testing.T) {
	for _, h := range edgePlates() {
		for _, on := range []bool{false, true} {
			n, e := heat.Rest(h, on)
			if e != api.OK {
				t.Fatalf("Rest(%v, %v): %v", h, on, e)
			}
			ticks(t, h, n, on, n)
		}
	}
}
