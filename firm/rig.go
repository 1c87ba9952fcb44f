package firm

import (
	"workcell/api"
	"workcell/ramp"
)

// maxPerStep: micrometres of a step.
const maxPerStep = 100000

// isRig: are all numbers of a rig in their ranges? As 0 is within Low and High, none of Low is above that of High.
func isRig(r api.Rig) bool {
	low, high := numbers(r.Low), numbers(r.High)
	for i := range low {
		if !isFrom(-api.MaxPlace, low[i], 0) || !isFrom(0, high[i], api.MaxPlace) {
			return false
		}
	}
	return isRamp(r.Ramp) && isFrom(1, r.PerStep, maxPerStep) && isFrom(1, r.Most, api.MaxVolume)
}

// isRamp: is it one? Of no steps nothing else can be wrong.
func isRamp(r api.Ramp) bool {
	_, e := ramp.Total(r, 0)
	return e == api.OK
}

// isWithin a rig's Low and High?
func isWithin(r api.Rig, p api.Point) bool {
	low, high := numbers(r.Low), numbers(r.High)
	for i, n := range numbers(p) {
		if !isFrom(low[i], n, high[i]) {
			return false
		}
	}
	return true
}

// greatestChange of a number between two points, of any sign.
func greatestChange(from, to api.Point) int {
	start, greatest := numbers(from), 0
	for i, n := range numbers(to) {
		greatest = max(greatest, change(start[i], n))
	}
	return greatest
}

// numbers of a point.
func numbers(p api.Point) [3]int { return [3]int{p.X, p.Y, p.Z} }

// change of a number, of any sign.
func change(from, to int) int { return max(from-to, to-from) }

// isFrom low to high?
func isFrom(low, n, high int) bool { return low <= n && n <= high }

// upBy: a number that is not below 0 by one from 1 on, rounded up.
func upBy(n, by int) int { return (n + by - 1) / by }
