package desk_test

import (
	"strings"
	"testing"

	"workcell/api"
	"workcell/deck"
	"workcell/desk"
)

// die: numbers that look drawn, the same each time.
type die uint64

func (d *die) n(most int) int {
	*d = *d*6364136223846793005 + 1442695040888963407
	return int(uint64(*d>>33) % uint64(most))
}

// pick one of some.
func pick[T any](d *die, some ...T) T { return some[d.n(len(some))] }

// seat of a ware in a slot.
func seat(slot int, name string, kind, rows, columns, capacity int) api.Seat {
	w := api.Ware{Name: "w", Kind: kind, Rows: rows, Columns: columns, Pitch: 1000, Width: 60000, Length: 30000, Height: 14000, Deep: 10000, Capacity: capacity}
	return api.Seat{Slot: slot, Name: name, Ware: w}
}

// table: a plate p of two rows and three columns, wells of 200; a plate q of one well of 30; a rack r of four tips of
// 20; a trash t.
func table() []api.Seat {
	return []api.Seat{
		seat(5, "q", api.Plate, 1, 1, 30),
		seat(7, "r", api.Rack, 2, 2, 20),
		seat(1, "p", api.Plate, 2, 3, 200),
		seat(12, "t", api.Trash, 1, 1, 0),
	}
}

// seatLine that brings a seat.
func seatLine(s api.Seat) string {
	text, e := deck.Show([]api.Seat{s})
	if e != api.OK {
		panic(e)
	}
	return "seat " + strings.TrimSuffix(text, "\n")
}

// seatLines of a deck.
func seatLines(d []api.Seat) []string {
	var lines []string
	for _, s := range d {
		lines = append(lines, seatLine(s))
	}
	return lines
}

// turn: a line, and the answer to it.
type turn struct{ line, answer string }

// talk: are lines answered so, one behind the other?
func talk(t *testing.T, turns ...turn) {
	t.Helper()
	var text strings.Builder
	for _, c := range turns {
		text.WriteString(c.line + "\n")
	}
	answers := strings.SplitAfter(desk.Session(text.String()), "\n")
	if len(answers) != len(turns)+1 || answers[len(turns)] != "" {
		t.Fatalf("%q: %q: wanted %d lines", text.String(), answers, len(turns))
	}
	for i, c := range turns {
		if answers[i] != c.answer+"\n" {
			t.Errorf("%q: line %d: %q; wanted %q", text.String(), i, answers[i], c.answer)
		}
	}
}

// talkAtTable: with the table's seats ahead.
func talkAtTable(t *testing.T, turns ...turn) {
	t.Helper()
	var seats []turn
	for _, line := range seatLines(table()) {
		seats = append(seats, turn{line, "ok"})
	}
	talk(t, append(seats, turns...)...)
}

// answers: is the text answered so?
func answers(t *testing.T, text, want string) {
	t.Helper()
	if s := desk.Session(text); s != want {
		t.Errorf("Session %q: %q; wanted %q", text, s, want)
	}
}
