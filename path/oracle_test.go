package path_test

import (
	"slices"

	"workcell/api"
)

// boxesOf a deck, by the rule of its slots.
func boxesOf(d []api.Seat) []api.Box {
	var l []api.Box
	for _, s := range d {
		x, y := (s.Slot-1)%3*137500, (s.Slot-1)/3*95500
		l = append(l, box(x, y, 0, x+s.Ware.Width, y+s.Ware.Length, s.Ware.Height))
	}
	return l
}

// isFree: does the tool meet no box anywhere from one point to another?
func isFree(d []api.Seat, tool api.Box, a, b api.Point) bool {
	for _, o := range boxesOf(d) {
		if min(a.X, b.X)+tool.Low.X < o.High.X && o.Low.X < max(a.X, b.X)+tool.High.X &&
			min(a.Y, b.Y)+tool.Low.Y < o.High.Y && o.Low.Y < max(a.Y, b.Y)+tool.High.Y &&
			min(a.Z, b.Z)+tool.Low.Z < o.High.Z && o.Low.Z < max(a.Z, b.Z)+tool.High.Z {
			return false
		}
	}
	return true
}

// wrongOf a way: its first point at which, or on the way to which, something is met.
func wrongOf(d []api.Seat, tool api.Box, way []api.Point) int {
	for i, p := range way {
		if !isFree(d, tool, p, p) || i > 0 && !isFree(d, tool, way[i-1], p) {
			return i
		}
	}
	return -1
}

// planOf two points: of the heights that may be the least, the first at which it can go across.
func planOf(d []api.Seat, tool api.Box, from, to api.Point) ([]api.Point, api.Errno) {
	least := max(from.Z, to.Z)
	heights := []int{least}
	for _, o := range boxesOf(d) {
		if top := o.High.Z - tool.Low.Z; top > least {
			heights = append(heights, top)
		}
	}
	slices.Sort(heights)
	for _, z := range heights {
		above, across, along := at(from.X, from.Y, z), at(to.X, from.Y, z), at(to.X, to.Y, z)
		if !isFree(d, tool, above, across) || !isFree(d, tool, across, along) {
			continue
		}
		way := slices.Compact([]api.Point{from, above, across, along, to})
		if wrongOf(d, tool, way) >= 0 || z+tool.High.Z > far {
			break
		}
		return way, api.OK
	}
	return nil, api.ErrBlocked
}

// lengthOf a way.
func lengthOf(way []api.Point) int {
	long := 0
	for i := 1; i < len(way); i++ {
		a, b := way[i-1], way[i]
		long += max(a.X, b.X) - min(a.X, b.X) + max(a.Y, b.Y) - min(a.Y, b.Y) + max(a.Z, b.Z) - min(a.Z, b.Z)
	}
	return long
}

// isBetween: is b on the straight line from a to c, and no end of it?
func isBetween(a, b, c api.Point) bool {
	return lengthOf([]api.Point{a, b, c}) == lengthOf([]api.Point{a, c}) && a != b && b != c &&
		(a.X == c.X && a.Y == c.Y || a.X == c.X && a.Z == c.Z || a.Y == c.Y && a.Z == c.Z)
}

// joinOf two ways: points go, one after the other, until none has to.
func joinOf(a, b []api.Point) []api.Point {
	l := slices.Concat(a, b)
	goes := func(i int) bool {
		return i > 0 && (l[i] == l[i-1] || i+1 < len(l) && isBetween(l[i-1], l[i], l[i+1]))
	}
	for i := 0; i < len(l); {
		if goes(i) {
			l, i = slices.Delete(l, i, i+1), 0
		} else {
			i++
		}
	}
	return l
}
