package cell_test

import (
	"slices"
	"testing"

	"workcell/api"
	"workcell/cell"
)

// top: how high the machine's point stands above the deck.
const top = 200000

// die: numbers that look drawn, the same each time.
type die uint64

func (d *die) n(most int) int {
	*d = *d*6364136223846793005 + 1442695040888963407
	return int(uint64(*d>>33) % uint64(most))
}

// pick one of some.
func pick[T any](d *die, some ...T) T { return some[d.n(len(some))] }

// seat of a ware with so many rows and columns, each well or tip with that capacity, wells' floors 4000 above the deck.
func seat(slot int, name string, kind, rows, columns, capacity int) api.Seat {
	w := api.Ware{Name: "w", Kind: kind, Rows: rows, Columns: columns, X: 100 * slot, Y: 10 * slot, Pitch: 1000, Width: 60000, Length: 30000, Height: 14000, Deep: 10000, Capacity: capacity}
	return api.Seat{Slot: slot, Name: name, Ware: w}
}

// table: a deck whose seats stand in no order: a plate p of two rows and three columns, wells of 200, the first one's
// floor at 0, 0, 0; a plate q of one well of 30; a rack r of four tips of 20 in a lesser slot than a rack s of two of
// 1000; a trash t of two rows and two columns in a lesser slot than a trash u.
func table() []api.Seat {
	p := seat(1, "p", api.Plate, 2, 3, 200)
	p.Ware.X, p.Ware.Y, p.Ware.Deep = 0, 0, p.Ware.Height
	return []api.Seat{
		seat(12, "u", api.Trash, 1, 1, 0),
		seat(8, "s", api.Rack, 2, 1, 1000),
		seat(11, "t", api.Trash, 2, 2, 0),
		seat(5, "q", api.Plate, 1, 1, 30),
		seat(7, "r", api.Rack, 2, 2, 20),
		p,
	}
}

// without wares of a kind: the table.
func without(kind int) []api.Seat {
	return slices.DeleteFunc(table(), func(s api.Seat) bool { return s.Ware.Kind == kind })
}

// withTips: the table, the tips of its rack r of another capacity.
func withTips(capacity int) []api.Seat {
	d := table()
	d[4].Ware.Capacity = capacity
	return d
}

// full of wells: ten plates, a rack, a trash, each of 16 rows and 24 columns.
func full() []api.Seat {
	var d []api.Seat
	for slot := 1; slot <= 10; slot++ {
		d = append(d, seat(slot, "p"+string(rune('a'+slot)), api.Plate, 16, 24, 1000))
	}
	return append(d, seat(11, "r", api.Rack, 16, 24, 1000), seat(12, "t", api.Trash, 16, 24, 0))
}

// place of a well, its row and column from 0 on.
func place(slot, row, column int) api.Place {
	return api.Place{Slot: slot, Spot: api.Spot{Row: row, Column: column}}
}

// Wells of the table.
var (
	pA1 = place(1, 0, 0)
	pB1 = place(1, 1, 0)
	pA2 = place(1, 0, 1)
	pB3 = place(1, 1, 2)
	qA1 = place(5, 0, 0)
)

// at three numbers: a point.
func at(x, y, z int) api.Point { return api.Point{X: x, Y: y, Z: z} }

// Where these wells are, the tips in the order in which they are taken, and wells of trashes.
var (
	pointA1 = at(0, 0, 0)
	pointB1 = at(0, 1000, 0)
	pointA2 = at(1000, 0, 0)
	pointB3 = at(2000, 1000, 0)
	pointQ  = at(137500+500, 95500+50, 4000)
	points  = [...]api.Point{
		at(700, 191000+70, 4000), at(700, 191000+1070, 4000), at(1700, 191000+70, 4000), at(1700, 191000+1070, 4000),
		at(137500+800, 191000+80, 4000), at(137500+800, 191000+1080, 4000),
	}
	trashT   = at(137500+1100, 286500+110, 4000)
	trashTB1 = at(137500+1100, 286500+1110, 4000)
	trashTA2 = at(137500+2100, 286500+110, 4000)
	trashU   = at(275000+1200, 286500+120, 4000)
)

// Short forms of actions.
func fill(p api.Place, label string, volume int) api.Action {
	return api.Action{Kind: api.Fill, Place: p, Label: label, Volume: volume}
}
func draw(p api.Place, volume int) api.Action {
	return api.Action{Kind: api.Draw, Place: p, Volume: volume}
}
func put(p api.Place, volume int) api.Action {
	return api.Action{Kind: api.Put, Place: p, Volume: volume}
}
func warm(value int) api.Action       { return api.Action{Kind: api.Warm, Value: value} }
func timed(kind, time int) api.Action { return api.Action{Kind: kind, Time: time} }
func shake(value, time int) api.Action {
	return api.Action{Kind: api.Shake, Value: value, Time: time}
}

// tip and drop need nothing more.
var (
	tip  = api.Action{Kind: api.Tip}
	drop = api.Action{Kind: api.Drop}
)

// Commands.
func home() api.Command          { return api.Command{Kind: api.Home} }
func to(p api.Point) api.Command { return api.Command{Kind: api.Go, X: p.X, Y: p.Y, Z: p.Z} }
func plug(value int) api.Command { return api.Command{Kind: api.Plug, Value: value} }
func grab() api.Command          { return api.Command{Kind: api.Grab} }
func eject() api.Command         { return api.Command{Kind: api.Eject} }
func cook(value int) api.Command { return api.Command{Kind: api.Cook, Value: value} }
func rest(value int) api.Command { return api.Command{Kind: api.Rest, Value: value} }
func turn(value int) api.Command { return api.Command{Kind: api.Turn, Value: value} }

// work at a point: commands.
func work(p api.Point, does api.Command) []api.Command {
	above := to(at(p.X, p.Y, top))
	return []api.Command{above, to(p), does, above}
}

// join lists and single ones of them.
func join[T any](parts ...any) []T {
	var l []T
	for _, part := range parts {
		switch p := part.(type) {
		case T:
			l = append(l, p)
		case []T:
			l = append(l, p...)
		default:
			panic("no part of such a list")
		}
	}
	return l
}

// trace of actions and of lists of them.
func trace(parts ...any) []api.Action { return join[api.Action](parts...) }

// program of commands and of lists of them.
func program(parts ...any) []api.Command { return join[api.Command](parts...) }

// compiles: do actions become just these commands, behind the first two?
func compiles(t *testing.T, d []api.Seat, l []api.Action, want ...any) {
	t.Helper()
	all := program(append([]any{home(), to(at(0, 0, top))}, want...)...)
	if got, n, e := cell.Compile(d, l); !slices.Equal(got, all) || n != 0 || e != api.OK {
		t.Errorf("Compile %v: %v, %d, %v; wanted %v", l, got, n, e, all)
	}
}

// refusesCompile: are actions refused at that number, by Ticks, too?
func refusesCompile(t *testing.T, d []api.Seat, l []api.Action, n int, want api.Errno) {
	t.Helper()
	if got, k, e := cell.Compile(d, l); len(got) != 0 || k != n || e != want {
		t.Errorf("Compile %v: %v, %d, %v; wanted %d, %v", l, got, k, e, n, want)
	}
	if ticks, e := cell.Ticks(d, l); ticks != 0 || e != want {
		t.Errorf("Ticks %v: %d, %v; wanted %v", l, ticks, e, want)
	}
}

// watches: do commands make just these actions known?
func watches(t *testing.T, d []api.Seat, l []api.Command, want ...api.Action) {
	t.Helper()
	if got, n, e := cell.Watch(d, l); !slices.Equal(got, want) || n != 0 || e != api.OK {
		t.Errorf("Watch %v: %v, %d, %v; wanted %v", l, got, n, e, want)
	}
}

// refusesWatch: are commands refused at that number?
func refusesWatch(t *testing.T, d []api.Seat, l []api.Command, n int, want api.Errno) {
	t.Helper()
	if got, k, e := cell.Watch(d, l); len(got) != 0 || k != n || e != want {
		t.Errorf("Watch %v: %v, %d, %v; wanted %d, %v", l, got, k, e, n, want)
	}
}

// wrongDecks: what deck.Check says of each.
func wrongDecks() map[api.Errno][]api.Seat {
	wide := seat(3, "x", api.Plate, 1, 1, 1)
	wide.Ware.Width = api.SlotWidth + 1
	return map[api.Errno][]api.Seat{
		api.ErrCount: make([]api.Seat, api.Slots+1),
		api.ErrRange: append(table(), seat(13, "x", api.Plate, 1, 1, 1)),
		api.ErrName:  append(table(), seat(3, "X", api.Plate, 1, 1, 1)),
		api.ErrKind:  append(table(), seat(3, "x", 4, 1, 1, 1)),
		api.ErrSize:  append(table(), wide),
		api.ErrTwice: append(table(), seat(7, "x", api.Plate, 1, 1, 1)),
	}
}
