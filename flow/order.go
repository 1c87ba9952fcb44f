package flow

import (
	"cmp"

	"workcell/api"
)

// byPlace: the order of places: by slots, columns, rows.
func byPlace(p, q api.Place) int {
	return cmp.Or(
		cmp.Compare(p.Slot, q.Slot),
		cmp.Compare(p.Spot.Column, q.Spot.Column),
		cmp.Compare(p.Spot.Row, q.Spot.Row))
}

// byRoute: the order of pairs.
func byRoute(a, b api.Pair) int {
	return cmp.Or(byPlace(a.From, b.From), byPlace(a.Into, b.Into))
}
