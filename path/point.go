package path

import (
	"iter"

	"workcell/api"
)

// isNear: is no number of the points too far?
func isNear(points ...api.Point) bool {
	for _, p := range points {
		for _, n := range numbers(p) {
			if n < -api.MaxPlace || n > api.MaxPlace {
				return false
			}
		}
	}
	return true
}

// isSlanting: does more than one number change on a step of a way?
func isSlanting(way []api.Point) bool {
	for a, b := range steps(way) {
		if turns(a, b) > 1 {
			return true
		}
	}
	return false
}

// turns: how many numbers change from one point to another.
func turns(a, b api.Point) int {
	count := 0
	for _, n := range change(a, b) {
		if n != 0 {
			count++
		}
	}
	return count
}

// isStraight: does it go on from a through b to c in one direction? (On each of both steps no more than one number changes.)
func isStraight(a, b, c api.Point) bool {
	first, second := change(a, b), change(b, c)
	for i := range first {
		if first[i]*second[i] > 0 {
			return true
		}
	}
	return false
}

// straightened: ways, one behind the other, without points that would be gone through anyway.
func straightened(ways ...[]api.Point) []api.Point {
	var kept []api.Point
	for _, way := range ways {
		for _, p := range way {
			last := len(kept) - 1
			switch {
			case last >= 0 && kept[last] == p:
			case last >= 1 && isStraight(kept[last-1], kept[last], p):
				kept[last] = p
			default:
				kept = append(kept, p)
			}
		}
	}
	return kept
}

// steps of a way: each point with the next one.
func steps(way []api.Point) iter.Seq2[api.Point, api.Point] {
	return func(yield func(a, b api.Point) bool) {
		for i := 1; i < len(way); i++ {
			if !yield(way[i-1], way[i]) {
				return
			}
		}
	}
}

// change of each number, from one point to another.
func change(a, b api.Point) [3]int {
	changed, was := numbers(b), numbers(a)
	for i := range changed {
		changed[i] -= was[i]
	}
	return changed
}

// numbers of a point, to be gone over.
func numbers(p api.Point) [3]int {
	return [...]int{p.X, p.Y, p.Z}
}
