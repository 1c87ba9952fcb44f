package path

import (
	"workcell/api"
	"workcell/deck"
	"workcell/space"
)

// refusal: what is wrong with a deck, with points and a tool, or with the tool's form.
func refusal(d []api.Seat, tool api.Box, points ...api.Point) api.Errno {
	if e := deck.Check(d); e != api.OK {
		return e
	}
	if !isNear(points...) || !isNear(tool.Low, tool.High) {
		return api.ErrRange
	}
	if !isTool(tool) {
		return api.ErrForm
	}
	return api.OK
}

// isTool: is a box one around its own point?
func isTool(b api.Box) bool {
	high := numbers(b.High)
	for i, low := range numbers(b.Low) {
		if low > 0 || high[i] < 0 {
			return false
		}
	}
	return true
}

// tooFar: would the tool be too far at a point?
func tooFar(tool api.Box) func(api.Point) bool {
	return func(p api.Point) bool {
		_, e := space.Move(tool, p)
		return e != api.OK
	}
}

// firstWrong: the number of the first point at which the tool meets a box, or on the way to which.
func firstWrong(boxes []api.Box, tool api.Box, way []api.Point) int {
	ahead := way[0]
	for i, p := range way {
		if met(boxes, tool, ahead, p) {
			return i
		}
		ahead = p
	}
	return nothing
}

// met: does the tool meet a box as it goes from a point to another, both of which it may be at?
func met(boxes []api.Box, tool api.Box, from, to api.Point) bool {
	through, _ := sweep(tool, from, to)
	i, _ := space.First(boxes, through)
	return i != nothing
}

// crossing: the least height, not below either point, at which the tool can go across from above one to above the other.
// Each round rises to where what was met ends; there is no height in between that would be enough.
func crossing(boxes []api.Box, tool api.Box, from, to api.Point) (int, api.Errno) {
	height := max(from.Z, to.Z)
	for {
		rise, e := lift(boxes, tool, across(from, to, height))
		if e != api.OK || rise == 0 {
			return height, e
		}
		height += rise
	}
}

// across: from above one point, along X and then along Y, to above the other.
func across(from, to api.Point, height int) []api.Point {
	return []api.Point{
		{X: from.X, Y: from.Y, Z: height},
		{X: to.X, Y: from.Y, Z: height},
		{X: to.X, Y: to.Y, Z: height},
	}
}

// lift: how far up the tool must at least be, for each step of a way alone to be free.
func lift(boxes []api.Box, tool api.Box, way []api.Point) (int, api.Errno) {
	most := 0
	for a, b := range steps(way) {
		through, e := sweep(tool, a, b)
		if e != api.OK {
			return 0, e
		}
		// The sweep itself is what is raised: so a step may be longer than a point's numbers can tell.
		rise, e := space.Safe(boxes, through, api.Point{})
		if e != api.OK {
			return 0, e
		}
		most = max(most, rise)
	}
	return most, api.OK
}

// sweep of the tool from a point to another.
func sweep(tool api.Box, from, to api.Point) (api.Box, api.Errno) {
	a, e := space.Move(tool, from)
	if e != api.OK {
		return api.Box{}, e
	}
	b, e := space.Move(tool, to)
	if e != api.OK {
		return api.Box{}, e
	}
	return space.Hull(a, b)
}
