package pulse

import "workcell/api"

// axis: the steps that it makes in all, below 0 downwards; and what is left over for its next step.
type axis struct{ by, left int }

// next part of so many: the steps that the axis makes in it. A step is worth twice as much as there are parts, so that
// half of it is a whole number, too.
func (a *axis) next(parts int) int {
	a.left += 2 * a.size()
	steps := a.left / (2 * parts)
	a.left %= 2 * parts
	if a.by < 0 {
		return -steps
	}
	return steps
}

// size: steps of any sign.
func (a *axis) size() int { return max(a.by, -a.by) }

// axesOf a move in so many parts. Half of each first step is there at once: that rounds to the nearest.
func axesOf(by api.Point, parts int) [3]axis {
	var axes [3]axis
	for i, n := range numbers(by) {
		axes[i] = axis{by: n, left: parts}
	}
	return axes
}

// parted: a move in so many parts; take is told the steps of each.
func parted(by api.Point, parts int, take func(steps [3]int)) {
	axes := axesOf(by, parts)
	for range parts {
		var steps [3]int
		for i := range axes {
			steps[i] = axes[i].next(parts)
		}
		take(steps)
	}
}

// isMove: are all numbers of a move in their range?
func isMove(by api.Point) bool {
	for _, n := range numbers(by) {
		if n < -api.MaxRamp || n > api.MaxRamp {
			return false
		}
	}
	return true
}

// longest number of a move, of any sign.
func longest(by api.Point) int {
	most := 0
	for _, n := range numbers(by) {
		most = max(most, n, -n)
	}
	return most
}

// numbers of a point.
func numbers(p api.Point) [3]int { return [3]int{p.X, p.Y, p.Z} }

// pointOf numbers.
func pointOf(n [3]int) api.Point { return api.Point{X: n[0], Y: n[1], Z: n[2]} }
