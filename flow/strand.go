package flow

import "workcell/api"

// strand: something on which actions hang, one behind the other.
type strand struct {
	kind  int
	place api.Place // of a well
}

// Kinds of strands.
const (
	tipStrand  = iota + 1
	heatStrand // and time
	wellStrand
)

// strandsOf an action: its kind alone tells, whether it does anything or not.
func strandsOf(a api.Action) []strand {
	tip, heat, well := strand{kind: tipStrand}, strand{kind: heatStrand}, strand{kind: wellStrand, place: a.Place}
	switch a.Kind {
	case api.Fill:
		return []strand{well}
	case api.Tip, api.Drop:
		return []strand{tip}
	case api.Draw, api.Put:
		return []strand{tip, well}
	case api.Warm, api.Hold, api.Shake, api.Wait:
		return []strand{heat}
	}
	return nil
}

// levelOf what hangs on strands; next has of each the level of what hangs on it next, and is brought up to date.
func levelOf(strands []strand, next map[strand]int) int {
	level := 0
	for _, s := range strands {
		level = max(level, next[s])
	}
	for _, s := range strands {
		next[s] = level + 1
	}
	return level
}
