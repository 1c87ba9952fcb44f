package heat

import (
	"iter"

	"workcell/api"
)

// work: a plate at work, switched so that its heat comes to be from low to high.
type work struct {
	api.Hot
	heat      int
	on        bool
	low, high int
}

// atWork: a plate that was off.
func atWork(h api.Hot, t, target, band int) *work {
	return &work{Hot: h, heat: t, low: target - band, high: target + band}
}

// ticks of the plate, so many: the heat behind each of them.
func (w *work) ticks(most int) iter.Seq[int] {
	return func(yield func(int) bool) {
		for range most {
			w.turn()
			w.heat = behind(w.Hot, w.heat, w.on)
			if !yield(w.heat) {
				return
			}
		}
	}
}

// turn it on or off, if it is too cold or too warm.
func (w *work) turn() {
	switch {
	case w.heat < w.low:
		w.on = true
	case w.heat > w.high:
		w.on = false
	}
}

// isThere: is its heat from low to high?
func (w *work) isThere() bool { return w.low <= w.heat && w.heat <= w.high }
