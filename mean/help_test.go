package mean_test

import (
	"slices"

	"workcell/api"
)

// die: numbers that look drawn, the same each time.
type die uint64

func (d *die) n(most int) int {
	*d = *d*6364136223846793005 + 1442695040888963407
	return int(uint64(*d>>33) % uint64(most))
}

// pick one of some.
func pick[T any](d *die, some ...T) T { return some[d.n(len(some))] }

// seat of a ware with so many rows and columns, each well or tip with that capacity.
func seat(slot int, name string, kind, rows, columns, capacity int) api.Seat {
	w := api.Ware{Name: "w", Kind: kind, Rows: rows, Columns: columns, Pitch: 1000, Width: 60000, Length: 30000, Height: 14000, Deep: 10000, Capacity: capacity}
	return api.Seat{Slot: slot, Name: name, Ware: w}
}

// table: a deck whose seats stand in no order: a plate p of two rows and three columns, wells of 200; a plate q of
// one well of 30; a rack r of four tips of 20 in a lesser slot than a rack s of two of 1000; a trash t.
func table() []api.Seat {
	return []api.Seat{
		seat(12, "t", api.Trash, 1, 1, 0),
		seat(8, "s", api.Rack, 2, 1, 1000),
		seat(5, "q", api.Plate, 1, 1, 30),
		seat(7, "r", api.Rack, 2, 2, 20),
		seat(1, "p", api.Plate, 2, 3, 200),
	}
}

// withTips: the table, the tips of its rack r of another capacity.
func withTips(capacity int) []api.Seat {
	d := table()
	d[3].Ware.Capacity = capacity
	return d
}

// withoutTips: the table without racks.
func withoutTips() []api.Seat {
	return slices.DeleteFunc(table(), func(s api.Seat) bool { return s.Ware.Kind == api.Rack })
}

// vast: a plate p and a rack r, both of MaxVolume.
func vast() []api.Seat {
	return []api.Seat{seat(1, "p", api.Plate, 1, 2, api.MaxVolume), seat(2, "r", api.Rack, 1, 1, api.MaxVolume)}
}

// place of a well, its row and column from 0 on.
func place(slot, row, column int) api.Place {
	return api.Place{Slot: slot, Spot: api.Spot{Row: row, Column: column}}
}

// Wells of the table.
var (
	pA1 = place(1, 0, 0)
	pB1 = place(1, 1, 0)
	pA2 = place(1, 0, 1)
	pB3 = place(1, 1, 2)
	qA1 = place(5, 0, 0)
)

// pour a fluid: labels and volumes, by turns.
func pour(parts ...any) []api.Parcel {
	var f []api.Parcel
	for i := 0; i < len(parts); i += 2 {
		f = append(f, api.Parcel{Label: parts[i].(string), Volume: parts[i+1].(int)})
	}
	return f
}

// striped: so many parcels of 1, of a and b by turns.
func striped(count int) []api.Parcel {
	var f []api.Parcel
	for i := range count {
		f = append(f, api.Parcel{Label: []string{"a", "b"}[i%2], Volume: 1})
	}
	return f
}

// many: so many labels, rising.
func many(count int) []string {
	var l []string
	for i := range count {
		l = append(l, string([]byte{'a' + byte(i/26), 'a' + byte(i%26)}))
	}
	return l
}

// each: one of each label, one behind the other.
func each(labels []string) []api.Parcel {
	var f []api.Parcel
	for _, label := range labels {
		f = append(f, api.Parcel{Label: label, Volume: 1})
	}
	return f
}

// in: a well with a fluid.
func in(p api.Place, parts ...any) api.Filled { return api.Filled{Place: p, Fluid: pour(parts...)} }

// wells: a state with just these.
func wells(l ...api.Filled) api.State { return api.State{Wells: l} }

// tipped: a state with a tip, the first one, that holds a fluid and has touched labels.
func tipped(held []api.Parcel, touched []string, l ...api.Filled) api.State {
	return api.State{Wells: l, Tip: true, Held: held, Touched: touched, Used: 1}
}

// Short forms of actions.
func fill(p api.Place, label string, volume int) api.Action {
	return api.Action{Kind: api.Fill, Place: p, Label: label, Volume: volume}
}
func draw(p api.Place, volume int) api.Action {
	return api.Action{Kind: api.Draw, Place: p, Volume: volume}
}
func put(p api.Place, volume int) api.Action {
	return api.Action{Kind: api.Put, Place: p, Volume: volume}
}
func warm(value int) api.Action { return api.Action{Kind: api.Warm, Value: value} }
func shake(value, time int) api.Action {
	return api.Action{Kind: api.Shake, Value: value, Time: time}
}

// tip and drop need nothing more.
var (
	tip  = api.Action{Kind: api.Tip}
	drop = api.Action{Kind: api.Drop}
)

// sameState: are two states alike, empty lists nil or not?
func sameState(a, b api.State) bool {
	return slices.EqualFunc(a.Wells, b.Wells, sameWell) &&
		a.Tip == b.Tip && slices.Equal(a.Held, b.Held) && slices.Equal(a.Touched, b.Touched) &&
		a.Used == b.Used && a.Heat == b.Heat && a.Clock == b.Clock
}

// sameWell: are two wells alike?
func sameWell(a, b api.Filled) bool {
	return a.Place == b.Place && slices.Equal(a.Fluid, b.Fluid)
}

// copied: a state in memory of its own.
func copied(s api.State) api.State {
	s.Wells = slices.Clone(s.Wells)
	for i := range s.Wells {
		s.Wells[i].Fluid = slices.Clone(s.Wells[i].Fluid)
	}
	s.Held, s.Touched = slices.Clone(s.Held), slices.Clone(s.Touched)
	return s
}
