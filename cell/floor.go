package cell

import (
	"cmp"
	"slices"

	"workcell/api"
	"workcell/deck"
	"workcell/ware"
)

// high above the deck: there the machine's point stands, but where it works.
const high = 200000

// stand: where the machine works at a well of a ware of that kind.
type stand struct {
	kind int
	at   api.Point
}

// floor: where the machine works on a deck that may be.
type floor struct {
	tips   []api.Place             // one is taken behind the other
	bins   []api.Place             // of trashes; by slots, then as ware.All tells them
	points map[api.Place]api.Point // of all wells
	places map[stand]api.Place     // back: no two wells are in one place
}

// newFloor of a deck, if it may be.
func newFloor(d []api.Seat) (floor, api.Errno) {
	tips, e := deck.Tips(d)
	if e != api.OK { // it is what deck.Check says
		return floor{}, e
	}
	f := floor{tips: tips, points: map[api.Place]api.Point{}, places: map[stand]api.Place{}}
	for _, s := range bySlots(d) {
		f.lay(s)
	}
	return f, api.OK
}

// lay all wells of a seat. No error comes, as the seat's deck may be.
func (f *floor) lay(s api.Seat) {
	alone := []api.Seat{s} // a deck, too, and At has no other seats to look at
	spots, _ := ware.All(s.Ware)
	for _, spot := range spots {
		p := api.Place{Slot: s.Slot, Spot: spot}
		at, _ := deck.At(alone, p)
		f.points[p], f.places[stand{s.Ware.Kind, at}] = at, p
		if s.Ware.Kind == api.Trash {
			f.bins = append(f.bins, p)
		}
	}
}

// bySlots: the seats of a deck, in memory of their own.
func bySlots(d []api.Seat) []api.Seat {
	return slices.SortedFunc(slices.Values(d), func(a, b api.Seat) int { return cmp.Compare(a.Slot, b.Slot) })
}
