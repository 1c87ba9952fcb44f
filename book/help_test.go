package book_test

import (
	"slices"
	"strconv"
	"testing"

	"workcell/api"
	"workcell/book"
)

// full: the greatest of all volumes, values and times.
const full = api.MaxVolume

// die: numbers that look drawn, the same each time.
type die uint64

func (d *die) n(most int) int {
	*d = *d*6364136223846793005 + 1442695040888963407
	return int(uint64(*d>>33) % uint64(most))
}

// pick one of some.
func pick[T any](d *die, some ...T) T { return some[d.n(len(some))] }

// seat of a ware with so many rows and columns, each well or tip with that capacity.
func seat(slot int, name string, kind, rows, columns, capacity int) api.Seat {
	w := api.Ware{Name: "w", Kind: kind, Rows: rows, Columns: columns, Pitch: 1000, Width: 60000, Length: 30000, Height: 14000, Deep: 10000, Capacity: capacity}
	return api.Seat{Slot: slot, Name: name, Ware: w}
}

// table: a deck with a plate p of two rows and three columns, wells of 200; a plate q of one well of 30; a rack r of
// four tips of 20.
func table() []api.Seat {
	return []api.Seat{
		seat(5, "q", api.Plate, 1, 1, 30),
		seat(7, "r", api.Rack, 2, 2, 20),
		seat(1, "p", api.Plate, 2, 3, 200),
	}
}

// place of a well, its row and column from 0 on.
func place(slot, row, column int) api.Place {
	return api.Place{Slot: slot, Spot: api.Spot{Row: row, Column: column}}
}

// Wells: three of the table, and the last one of the last slot.
var (
	pA1  = place(1, 0, 0)
	pB3  = place(1, 1, 2)
	qA1  = place(5, 0, 0)
	last = place(12, 15, 23)
)

// Short forms of actions.
func fill(p api.Place, label string, volume int) api.Action {
	return api.Action{Kind: api.Fill, Place: p, Label: label, Volume: volume}
}
func draw(p api.Place, volume int) api.Action {
	return api.Action{Kind: api.Draw, Place: p, Volume: volume}
}
func put(p api.Place, volume int) api.Action {
	return api.Action{Kind: api.Put, Place: p, Volume: volume}
}
func warm(value int) api.Action { return api.Action{Kind: api.Warm, Value: value} }
func hold(time int) api.Action  { return api.Action{Kind: api.Hold, Time: time} }
func wait(time int) api.Action  { return api.Action{Kind: api.Wait, Time: time} }
func shake(value, time int) api.Action {
	return api.Action{Kind: api.Shake, Value: value, Time: time}
}

// tip and drop need nothing more.
var (
	tip  = api.Action{Kind: api.Tip}
	drop = api.Action{Kind: api.Drop}
)

// kinds of actions.
func kinds() []int {
	return []int{api.Fill, api.Tip, api.Drop, api.Draw, api.Put, api.Warm, api.Hold, api.Shake, api.Wait}
}

// plainOf a kind: an action that may be.
func plainOf(kind int) api.Action {
	switch kind {
	case api.Fill:
		return fill(pB3, "a", 5)
	case api.Draw, api.Put:
		return api.Action{Kind: kind, Place: pB3, Volume: 5}
	case api.Warm:
		return warm(5)
	case api.Shake:
		return shake(5, 6)
	case api.Hold, api.Wait:
		return api.Action{Kind: kind, Time: 6}
	}
	return api.Action{Kind: kind}
}

// action that is drawn, and may be.
func (d *die) action() api.Action {
	p := place(1+d.n(12), d.n(16), d.n(24))
	n := func() int { return d.n(pick(d, 1, 2, 30, 5000, full+1)) }
	switch kind := pick(d, kinds()...); kind {
	case api.Fill:
		return fill(p, d.label(), n())
	case api.Draw, api.Put:
		return api.Action{Kind: kind, Place: p, Volume: n()}
	case api.Warm:
		return warm(n())
	case api.Shake:
		return shake(n(), n())
	case api.Hold, api.Wait:
		return api.Action{Kind: kind, Time: n()}
	default:
		return api.Action{Kind: kind}
	}
}

// label that is drawn.
func (d *die) label() string {
	const signs = "abcdefghijklmnopqrstuvwxyz0123456789"
	b := []byte{signs[d.n(26)]}
	for range d.n(16) {
		b = append(b, signs[d.n(36)])
	}
	return string(b)
}

// actions that are drawn, so many.
func (d *die) actions(count int) []api.Action {
	l := make([]api.Action, count)
	for i := range l {
		l[i] = d.action()
	}
	return l
}

// entry of a line, whatever it is, by the chapter's words.
func entry(line string) []byte {
	check := 0
	for i := range len(line) {
		check = (check + int(line[i])*(i+1)) % 65521
	}
	return slices.Concat([]byte{byte(len(line)), byte(255 - len(line))}, []byte(line), []byte{byte(check / 256), byte(check % 256)})
}

// bookOf lines, whatever they are.
func bookOf(lines ...string) []byte {
	b := []byte("CELL")
	for _, line := range lines {
		b = append(b, entry(line)...)
	}
	return b
}

// long: lines and actions of a book of so many bytes, most of them tips.
func long(size int) ([]string, []api.Action) {
	var lines []string
	var l []api.Action
	left := size - len("CELL")
	for ; left >= 20; left -= 7 {
		lines, l = append(lines, "tip"), append(l, tip)
	}
	// What is left is 13 to 19 bytes: an entry of as many.
	n := 1
	for range left - len(entry("hold 1")) {
		n *= 10
	}
	return append(lines, "hold "+strconv.Itoa(n)), append(l, hold(n))
}

// written: a book of actions that may be.
func written(t *testing.T, l ...api.Action) []byte {
	t.Helper()
	b, e := book.Write(l)
	if e != api.OK {
		t.Fatalf("Write %v: %v", l, e)
	}
	return b
}

// tells: is the action told so, and the line read back?
func tells(t *testing.T, a api.Action, want string) {
	t.Helper()
	if line, e := book.Line(a); line != want || e != api.OK {
		t.Errorf("Line %v: %q, %v; wanted %q", a, line, e, want)
	}
	if back, e := book.Action(want); back != a || e != api.OK {
		t.Errorf("Action %q: %v, %v; wanted %v", want, back, e, a)
	}
}

// refuses: is the action refused so, by Line, Write and Add, with nothing beside it?
func refuses(t *testing.T, a api.Action, want api.Errno) {
	t.Helper()
	if line, e := book.Line(a); line != "" || e != want {
		t.Errorf("Line %v: %q, %v; wanted %v", a, line, e, want)
	}
	if b, e := book.Write([]api.Action{tip, a}); len(b) != 0 || e != want {
		t.Errorf("Write a tip and %v: %q, %v; wanted %v", a, b, e, want)
	}
	if b, e := book.Add([]byte("CELL"), a); len(b) != 0 || e != want {
		t.Errorf("Add %v: %q, %v; wanted %v", a, b, e, want)
	}
}

// opens: does the book have just these actions, in so many bytes?
func opens(t *testing.T, b []byte, n int, want ...api.Action) {
	t.Helper()
	if l, m, e := book.Open(b); !slices.Equal(l, want) || m != n || e != api.OK {
		t.Errorf("Open %q: %v, %d, %v; wanted %v, %d", b, l, m, e, want, n)
	}
}

// stays: is the book refused so, by Open and Add, with nothing beside it?
func stays(t *testing.T, b []byte, want api.Errno) {
	t.Helper()
	if l, n, e := book.Open(b); len(l) != 0 || n != 0 || e != want {
		t.Errorf("Open %q: %v, %d, %v; wanted %v", b, l, n, e, want)
	}
	for _, a := range []api.Action{tip, {Kind: -1}} {
		if longer, e := book.Add(b, a); len(longer) != 0 || e != want {
			t.Errorf("Add %v to %q: %q, %v; wanted %v", a, b, longer, e, want)
		}
	}
}

// sameState: are two states alike, empty lists nil or not?
func sameState(a, b api.State) bool {
	sameWell := func(a, b api.Filled) bool { return a.Place == b.Place && slices.Equal(a.Fluid, b.Fluid) }
	return slices.EqualFunc(a.Wells, b.Wells, sameWell) &&
		a.Tip == b.Tip && slices.Equal(a.Held, b.Held) && slices.Equal(a.Touched, b.Touched) &&
		a.Used == b.Used && a.Heat == b.Heat && a.Clock == b.Clock
}

// roomy: a copy of a list with spare room, so that a change there shows.
func roomy[T any](l []T, spare T) []T { return append(slices.Clone(l), spare, spare, spare)[:len(l)] }
