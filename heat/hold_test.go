package heat_test

import (
	"testing"

	"workcell/api"
)

// P19.3: until it was there behind so many ticks, one behind the other.
func TestHold(t *testing.T) {
	// The heats are 75, 57, 43, 63, 78, 59, 45, 64, 78, 59, 45 ..
	h := of(30, 256, 0, 1000)
	holds(t, h, 100, 60, 10, 1, 50, answer{2, 57, api.OK})
	holds(t, h, 100, 60, 10, 2, 50, answer{50, 59, api.ErrFault}) // never two side by side: 57, 63, 59, 64, 59 ..
	// The heats are 10, 20, 30, 40, 50, 50 ..: at 40 it is on, as it was.
	h = of(10, 0, 0, 1000)
	holds(t, h, 0, 30, 10, 1, 50, answer{2, 20, api.OK})
	holds(t, h, 0, 30, 10, 3, 50, answer{4, 40, api.OK})
	holds(t, h, 0, 30, 10, 4, 50, answer{50, 50, api.ErrFault})
	holds(t, h, 0, 35, 10, 1, 50, answer{3, 30, api.OK})
}

// P19.3: from target - band to target + band, both among them.
func TestHoldEnds(t *testing.T) {
	off := of(0, 0, 0, 1000)
	for n, there := range map[int]bool{19: false, 20: true, 21: true, 30: true, 39: true, 40: true, 41: false} {
		want := answer{9, n, api.ErrFault}
		if there {
			want = answer{3, n, api.OK}
		}
		holds(t, off, n, 30, 10, 3, 9, want)
	}
	holds(t, off, 30, 30, 0, 3, 9, answer{3, 30, api.OK})
	holds(t, off, 31, 30, 0, 3, 9, answer{9, 31, api.ErrFault})
	holds(t, off, 29, 30, 0, 3, 9, answer{9, 29, api.ErrFault})
	holds(t, off, 0, 5, 6, 3, 9, answer{3, 0, api.OK})
	holds(t, of(0, 0, 0, hot), hot, hot, count, 3, 9, answer{3, hot, api.OK})
	holds(t, of(0, 0, 0, hot), hot-count, hot, count, 3, 9, answer{3, hot - count, api.OK})
	holds(t, of(0, 0, 0, hot), hot-count-1, hot, count, 3, 9, answer{9, hot - count - 1, api.ErrFault})
}

// P19.3: the heat ahead of the first tick does not count, nor do ticks that others stand between.
func TestHoldRow(t *testing.T) {
	holds(t, of(0, 512, 0, 1000), 40, 40, 0, 1, 9, answer{9, 1, api.ErrFault}) // 20, 10, 5, 3, 2, 1, 1 ..
	holds(t, of(0, 512, 0, 1000), 40, 3, 2, 1, 9, answer{3, 5, api.OK})
	holds(t, of(0, 512, 0, 1000), 40, 3, 2, 3, 9, answer{5, 2, api.OK})
	// 88, 77, 68, 60, 53, 59, 64, 68, 60, 53 ..: 60 is there, and 59 and 64, but not what is between.
	h := of(12, 128, 0, 1000)
	holds(t, h, 100, 60, 6, 1, 50, answer{4, 60, api.OK})
	holds(t, h, 100, 60, 6, 2, 50, answer{7, 64, api.OK})
	holds(t, h, 100, 60, 6, 3, 50, answer{50, 53, api.ErrFault})
}

// P19.3: need 0: no tick, whatever there may be.
func TestHoldNothing(t *testing.T) {
	for _, most := range []int{0, 1, count} {
		holds(t, even(), 100, 60, 10, 0, most, answer{0, 100, api.OK})
		holds(t, even(), 60, 60, 0, 0, most, answer{0, 60, api.OK})
		holds(t, even(), hot, 60, 0, 0, most, answer{0, hot, api.OK})
		holds(t, api.Hot{}, 0, 0, 0, 0, most, answer{0, 0, api.OK})
	}
}

// P19.3: just enough ticks, one too few, and none.
func TestHoldMost(t *testing.T) {
	h := of(10, 0, 0, 1000) // 10, 20, 30, 40
	holds(t, h, 0, 30, 10, 3, 4, answer{4, 40, api.OK})
	holds(t, h, 0, 30, 10, 3, 3, answer{3, 30, api.ErrFault})
	holds(t, h, 0, 30, 10, 3, 1, answer{1, 10, api.ErrFault})
	holds(t, h, 0, 30, 10, 3, 0, answer{0, 0, api.ErrFault})
	holds(t, h, 30, 30, 10, 1, 0, answer{0, 30, api.ErrFault})
	holds(t, h, 30, 30, 10, 1, 1, answer{1, 30, api.OK})
	holds(t, h, hot, 30, 10, 1, 0, answer{0, hot, api.ErrFault})
	holds(t, h, 30, 30, 10, count, count, answer{count, 30, api.OK})
	holds(t, h, 30, 30, 10, count, count-1, answer{count - 1, 30, api.ErrFault})
	holds(t, h, 10, 30, 10, count, count, answer{count, 50, api.ErrFault})
	holds(t, of(1, 0, 0, hot), 0, hot, 0, 1, count, answer{count, count, api.ErrFault})
	holds(t, of(1, 0, 0, hot), 0, count, 0, 1, count, answer{count, count, api.OK})
}
