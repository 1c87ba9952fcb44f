package flow_test

import (
	"slices"

	"workcell/api"
)

// die: numbers that look drawn, the same each time.
type die uint64

func (d *die) n(most int) int {
	*d = *d*6364136223846793005 + 1442695040888963407
	return int(uint64(*d>>33) % uint64(most))
}

// pick one of some.
func pick[T any](d *die, some ...T) T { return some[d.n(len(some))] }

// seat of a ware with so many rows and columns, each well or tip with that capacity.
func seat(slot int, name string, kind, rows, columns, capacity int) api.Seat {
	w := api.Ware{Name: "w", Kind: kind, Rows: rows, Columns: columns, Pitch: 1000, Width: 60000, Length: 30000, Height: 14000, Deep: 10000, Capacity: capacity}
	return api.Seat{Slot: slot, Name: name, Ware: w}
}

// table: a plate p of two rows and three columns, wells of 200; a plate q of one well of 30; a rack of tips of that
// capacity, eight of them; a trash.
func table(capacity int) []api.Seat {
	return []api.Seat{
		seat(12, "t", api.Trash, 1, 1, 0),
		seat(5, "q", api.Plate, 1, 1, 30),
		seat(7, "r", api.Rack, 2, 4, capacity),
		seat(1, "p", api.Plate, 2, 3, 200),
	}
}

// vast: a plate of 384 wells of MaxVolume, and tips of it, more than a trace can take.
func vast() []api.Seat {
	d := []api.Seat{seat(1, "p", api.Plate, 16, 24, api.MaxVolume)}
	for slot := 2; slot <= api.Slots; slot++ {
		d = append(d, seat(slot, "r"+string(rune('a'+slot)), api.Rack, 16, 24, api.MaxVolume))
	}
	return d
}

// place of a well, its row and column from 0 on.
func place(slot, row, column int) api.Place {
	return api.Place{Slot: slot, Spot: api.Spot{Row: row, Column: column}}
}

// Wells of the table, in order.
var (
	pA1 = place(1, 0, 0)
	pB1 = place(1, 1, 0)
	pA2 = place(1, 0, 1)
	pB3 = place(1, 1, 2)
	qA1 = place(5, 0, 0)
)

// Short forms of actions.
func fill(p api.Place, label string, volume int) api.Action {
	return api.Action{Kind: api.Fill, Place: p, Label: label, Volume: volume}
}
func draw(p api.Place, volume int) api.Action {
	return api.Action{Kind: api.Draw, Place: p, Volume: volume}
}
func put(p api.Place, volume int) api.Action {
	return api.Action{Kind: api.Put, Place: p, Volume: volume}
}
func timed(kind, time int) api.Action { return api.Action{Kind: kind, Time: time} }

// tip and drop need nothing more.
var (
	tip  = api.Action{Kind: api.Tip}
	drop = api.Action{Kind: api.Drop}
)

// trace of parts, one behind the other: actions, and lists of them.
func trace(parts ...any) []api.Action {
	var l []api.Action
	for _, part := range parts {
		switch p := part.(type) {
		case api.Action:
			l = append(l, p)
		case []api.Action:
			l = append(l, p...)
		default:
			panic("no part of a trace")
		}
	}
	return l
}

// times: a list so often.
func times(count int, l ...api.Action) []api.Action { return slices.Repeat(l, count) }

// striped: fill a well with a and b by turns, so many of each.
func striped(p api.Place, count, volume int) []api.Action {
	var l []api.Action
	for i := range count {
		l = append(l, fill(p, []string{"a", "b"}[i%2], volume))
	}
	return l
}

// roomy: a copy of a list with spare room, so that a change there shows.
func roomy[T any](l []T, spare T) []T { return append(slices.Clone(l), spare, spare, spare)[:len(l)] }
