package path_test

import (
	"slices"

	"workcell/api"
)

// far: the greatest number of a point.
const far = api.MaxPlace

// die: numbers that look drawn, the same each time.
type die uint64

func (d *die) n(most int) int {
	*d = *d*6364136223846793005 + 1442695040888963407
	return int(uint64(*d>>33) % uint64(most))
}

// pick one of some.
func pick[T any](d *die, some ...T) T { return some[d.n(len(some))] }

func at(x, y, z int) api.Point { return api.Point{X: x, Y: y, Z: z} }

// box from three numbers to three others.
func box(x, y, z, x2, y2, z2 int) api.Box { return api.Box{Low: at(x, y, z), High: at(x2, y2, z2)} }

// dot: a tool that is no more than its own point.
var dot = api.Box{}

// seat of a ware that is so wide, long and high.
func seat(slot, width, length, height int) api.Seat {
	w := api.Ware{Name: "w", Kind: api.Plate, Rows: 1, Columns: 1, Width: width, Length: length, Height: height, Deep: 1, Capacity: 1}
	return api.Seat{Slot: slot, Name: "n" + string(rune('a'+slot)), Ware: w}
}

// table: wares whose boxes are from 0 0 0 to 60000 30000 14000, from 137500 0 0 to 197500 30000 40000, and from
// 0 95500 0 to 60000 125500 50000.
func table() []api.Seat {
	return []api.Seat{seat(2, 60000, 30000, 40000), seat(1, 60000, 30000, 14000), seat(4, 60000, 30000, 50000)}
}

// full: a deck with nothing free but the gaps, all of one height.
func full(height int) []api.Seat {
	var d []api.Seat
	for slot := 1; slot <= api.Slots; slot++ {
		d = append(d, seat(slot, api.SlotWidth, api.SlotLength, height))
	}
	return d
}

// zigzag: so many points, by turns one step along X and one along Y.
func zigzag(count int) []api.Point {
	var way []api.Point
	for i := range count {
		way = append(way, at((i+1)/2, i/2, 0))
	}
	return way
}

// roomy: a copy of a list with spare room, so that a change there shows.
func roomy[T any](l []T, spare T) []T { return append(slices.Clone(l), spare, spare, spare)[:len(l)] }

// spoil a list, spare room too.
func spoil[T any](l []T, with T) {
	for i := range l[:cap(l)] {
		l[:cap(l)][i] = with
	}
}
