package mean

import (
	"cmp"
	"slices"

	"workcell/api"
	"workcell/fluid"
	"workcell/ware"
)

// layout: what a deck that may be has: its seats, how many tips, and how much a tip holds.
type layout struct {
	seats   []api.Seat
	tips    int
	tipMost int
}

func newLayout(d []api.Seat) layout {
	y := layout{seats: d}
	least := api.Slots + 1
	for _, s := range d {
		if s.Ware.Kind != api.Rack {
			continue
		}
		y.tips += s.Ware.Rows * s.Ware.Columns
		if s.Slot < least {
			least, y.tipMost = s.Slot, s.Ware.Capacity
		}
	}
	return y
}

// wareAt: the ware whose well a place is.
func (y layout) wareAt(p api.Place) (api.Ware, api.Errno) {
	i := slices.IndexFunc(y.seats, func(s api.Seat) bool { return s.Slot == p.Slot })
	if i < 0 {
		return api.Ware{}, api.ErrNone
	}
	w := y.seats[i].Ware
	if _, e := ware.Middle(w, p.Spot); e != api.OK { // the ware may be, so the spot is what it lacks
		return api.Ware{}, api.ErrNone
	}
	return w, api.OK
}

// wellMost: how much the well of a plate holds.
func (y layout) wellMost(p api.Place) (int, api.Errno) {
	w, e := y.wareAt(p)
	if e != api.OK {
		return 0, e
	}
	if w.Kind != api.Plate {
		return 0, api.ErrKind
	}
	return w.Capacity, api.OK
}

// may such a state be on this deck?
func (y layout) may(s api.State) bool {
	return y.mayFill(s.Wells) && y.mayTake(s) && within(0, s.Heat, api.MaxVolume) && within(0, s.Clock, api.MaxTime)
}

// mayFill: may the wells be so?
func (y layout) mayFill(wells []api.Filled) bool {
	for i, w := range wells {
		most, e := y.wellMost(w.Place)
		if e != api.OK || len(w.Fluid) == 0 || !mayHold(w.Fluid, most) {
			return false
		}
		if i > 0 && byPlace(wells[i-1], w) >= 0 {
			return false
		}
	}
	return true
}

// mayTake: may the tip be so, and how many were taken?
func (y layout) mayTake(s api.State) bool {
	if !s.Tip {
		return within(0, s.Used, y.tips) && len(s.Held) == 0 && len(s.Touched) == 0
	}
	return within(1, s.Used, y.tips) && mayHold(s.Held, y.tipMost) && mayTouch(s.Touched, s.Held)
}

// mayHold: may something that holds so much have such a fluid?
func mayHold(f []api.Parcel, most int) bool {
	plain, e := fluid.Plain(f)
	return e == api.OK && slices.Equal(plain, f) && total(f) <= most
}

// mayTouch: may labels be those that a tip has touched which holds such a fluid?
func mayTouch(labels []string, held []api.Parcel) bool {
	if len(labels) > api.MaxParcels {
		return false
	}
	for i := range labels {
		if i > 0 && labels[i-1] >= labels[i] {
			return false
		}
	}
	among, e := fluid.Within(held, drops(labels))
	return among && e == api.OK
}

// drops: a fluid that has labels, and no others: what package fluid tells of it holds of them.
func drops(labels []string) []api.Parcel {
	var f []api.Parcel
	for _, label := range labels {
		f = append(f, api.Parcel{Label: label, Volume: 1})
	}
	return f
}

// total of a fluid that may be.
func total(f []api.Parcel) int {
	sum, _ := fluid.Total(f)
	return sum
}

// within: is a number from low to high?
func within(low, n, high int) bool { return low <= n && n <= high }

// byPlace: the order of wells: by slots, columns, rows.
func byPlace(a, b api.Filled) int {
	p, q := a.Place, b.Place
	return cmp.Or(
		cmp.Compare(p.Slot, q.Slot),
		cmp.Compare(p.Spot.Column, q.Spot.Column),
		cmp.Compare(p.Spot.Row, q.Spot.Row))
}
