package heat

import "workcell/api"

// Greatest numbers of a plate, and of what is asked of it.
const (
	maxGain  = 100000
	maxLoss  = 512
	maxHeat  = 1000000
	maxCount = 100000
)

// parts of what a plate is above Around: Loss counts them.
const parts = 1024

// refusal of a plate, or of heats.
func refusal(h api.Hot, heats ...int) api.Errno {
	if !isPlate(h) || !areUpTo(maxHeat, heats...) {
		return api.ErrRange
	}
	return api.OK
}

// isPlate: are all numbers of a plate in their ranges?
func isPlate(h api.Hot) bool {
	isFit := areUpTo(maxGain, h.Gain) && areUpTo(maxLoss, h.Loss)
	return isFit && areUpTo(maxHeat, h.Around, h.Most) && h.Around <= h.Most
}

// areUpTo: are all numbers from 0 to the most?
func areUpTo(most int, numbers ...int) bool {
	for _, n := range numbers {
		if n < 0 || n > most {
			return false
		}
	}
	return true
}

// behind a tick: the heat of a plate that is on, or off. No bound below is needed: at most half of what it is above
// Around goes.
func behind(h api.Hot, t int, on bool) int {
	next := t - (t-h.Around)*h.Loss/parts
	if on {
		next += h.Gain
	}
	return min(next, h.Most)
}
