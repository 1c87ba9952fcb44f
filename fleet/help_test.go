package fleet_test

import (
	"strings"
	"testing"

	"workcell/api"
	"workcell/deck"
	"workcell/fleet"
)

// die: numbers that look drawn, the same each time.
type die uint64

func (d *die) n(most int) int {
	*d = *d*6364136223846793005 + 1442695040888963407
	return int(uint64(*d>>33) % uint64(most))
}

// pick one of some.
func pick[T any](d *die, some ...T) T { return some[d.n(len(some))] }

// seat of a ware in a slot.
func seat(slot int, name string, kind, rows, columns, capacity int) api.Seat {
	w := api.Ware{Name: "w", Kind: kind, Rows: rows, Columns: columns, Pitch: 1000, Width: 60000, Length: 30000, Height: 14000, Deep: 10000, Capacity: capacity}
	return api.Seat{Slot: slot, Name: name, Ware: w}
}

// Seats: a plate p of two rows and three columns, wells of 200; a plate q of one well of 30; a rack r of four tips of
// 20; a trash t.
func plateP() api.Seat { return seat(1, "p", api.Plate, 2, 3, 200) }
func plateQ() api.Seat { return seat(5, "q", api.Plate, 1, 1, 30) }
func rack() api.Seat   { return seat(7, "r", api.Rack, 2, 2, 20) }
func trash() api.Seat  { return seat(12, "t", api.Trash, 1, 1, 0) }

// table: a deck with all four.
func table() []api.Seat { return []api.Seat{plateQ(), rack(), plateP(), trash()} }

// textOf a deck that may be.
func textOf(d ...api.Seat) string {
	text, e := deck.Show(d)
	if e != api.OK {
		panic(e)
	}
	return text
}

// at the table: a job of some lines.
func at(lines ...string) api.Job { return on(table(), lines...) }

// on a deck: a job of some lines.
func on(d []api.Seat, lines ...string) api.Job {
	return api.Job{Deck: textOf(d...), Source: strings.Join(lines, "\n")}
}

// fuel that is enough for what is run here, unless it is told else.
const fuel = 1000

// fills, moves: what most jobs here begin with; it fills wells, and then uses one tip to move 25.
const (
	fills = `fill p.A1 with "a" 90nl`
	moves = "move 25nl from p.A1 into q.A1"
)

// stops: is that the job's report, with nothing but what belongs to its error?
func stops(t *testing.T, j api.Job, fuel, stage int, code api.Errno, line, actions int) {
	t.Helper()
	want := api.Report{Stage: stage, Code: code, Line: line, Actions: actions}
	if r, e := fleet.One(j, fuel); r != want || e != api.OK {
		t.Errorf("One %q %d: %v, %v; wanted %v", j, fuel, r, e, want)
	}
}

// ends: does the job go through all stages, with such a report?
func ends(t *testing.T, j api.Job, fuel, actions, tips, moved, ticks int) {
	t.Helper()
	want := api.Report{Stage: 7, Actions: actions, Tips: tips, Moved: moved, Ticks: ticks}
	if r, e := fleet.One(j, fuel); r != want || e != api.OK {
		t.Errorf("One %q %d: %v, %v; wanted %v", j, fuel, r, e, want)
	}
}

// someJobs: at least one of each stage, and more of the last ones.
func someJobs() []api.Job {
	return []api.Job{
		at(fills, moves),
		{Deck: "1 p"},
		{},
		at("let"),
		at("tip", "drop", "drop"),
		on([]api.Seat{rack()}, "tip", "drop"),
		at("wait 1s", "wait 1nl"),
		at("wait 1s", "wait 1s / 0"),
		at(fills, "move 80nl from p.A1 into p.B3"),
		at("draw 1nl from p.A1"),
		at("tip", "drop", "tip", "drop", "wait 1h"),
	}
}

// stagesOf jobs, each by itself; and how many there are of each.
func stagesOf(t *testing.T, l []api.Job, fuel int) ([]api.Report, [8]int) {
	t.Helper()
	var reports []api.Report
	var counts [8]int
	for _, j := range l {
		r := slowReport(j, fuel)
		reports = append(reports, r)
		counts[r.Stage]++
	}
	return reports, counts
}

// roomy: a copy of a list with spare room, so that a change there shows.
func roomy[T any](l []T, spare T) []T {
	return append(append([]T{}, l...), spare, spare, spare)[:len(l)]
}
