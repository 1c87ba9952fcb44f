package fleet_test

import (
	"math"
	"strings"
	"testing"

	"workcell/api"
	"workcell/fleet"
)

// P22.1: a job without anything; the chapter's example, and those of the document.
func TestExamples(t *testing.T) {
	ends(t, api.Job{}, 0, 0, 0, 0, 1634184)
	ends(t, api.Job{Source: "wait 1s"}, 10, 1, 0, 0, 2634184)
	ends(t, at(fills, moves), 2, 7, 1, 25, 6274240)
}

// P22.1: jobs that go through all stages: how many actions and tips, how much is put, how long it takes.
func TestDone(t *testing.T) {
	const nothing = 1634184 // ticks ahead of all actions
	ends(t, at(), 0, 0, 0, 0, nothing)
	ends(t, api.Job{Deck: "\n\n" + textOf(rack()) + "\n", Source: "# nothing\n\n"}, 0, 0, 0, 0, nothing)
	ends(t, at("def f(x vol) { move x from p.A1 into p.A2 }"), 1, 0, 0, 0, nothing)
	ends(t, at(fills, fills, `fill q.A1 with "b7" 30nl`), fuel, 3, 0, 0, nothing)
	ends(t, at("hold 2ms", "wait 1ms", "shake 5rpm for 3ms"), fuel, 3, 0, 0, nothing+6000)
	ends(t, at("heat 37C", "heat 0K"), fuel, 2, 0, 0, nothing)
	// A tip that is never dropped; what is drawn and dropped is not put.
	one, e := fleet.One(at("tip"), fuel)
	if one.Stage != 7 || one.Actions != 1 || one.Tips != 1 || one.Moved != 0 || e != api.OK {
		t.Error(one, e)
	}
	lost, e := fleet.One(at(fills, "tip draw 20nl from p.A1 put 3nl into p.A1 put 4nl into q.A1 drop tip drop"), fuel)
	if lost.Stage != 7 || lost.Actions != 8 || lost.Tips != 2 || lost.Moved != 7 || e != api.OK {
		t.Error(lost, e)
	}
	if lost.Ticks <= one.Ticks || one.Ticks <= nothing {
		t.Error(one, lost)
	}
}

// P22.1, stage 1: the deck's line.
func TestReadStops(t *testing.T) {
	const line = "5 q w plate 1 1 0 0 1000 60000 30000 14000 10000 30\n"
	for _, c := range []struct {
		deck string
		code api.Errno
		line int
	}{
		{" ", api.ErrForm, 1},
		{"\n\n1 p", api.ErrForm, 3},
		{line + "13 p w plate 1 1 0 0 1000 60000 30000 14000 10000 30", api.ErrRange, 2},
		{line + "\n1 P w plate 1 1 0 0 1000 60000 30000 14000 10000 30", api.ErrName, 3},
		{line + "1 p w bowl 1 1 0 0 1000 60000 30000 14000 10000 30", api.ErrForm, 2},
		{"1 p w plate 1 1 0 0 1000 132501 30000 14000 10000 30", api.ErrSize, 1},
		{line + line, api.ErrTwice, 2},
		{strings.Repeat(line, 13), api.ErrCount, 0},
	} {
		for _, source := range []string{"", "wait 1s", "let", "$"} { // whatever comes behind it
			stops(t, api.Job{Deck: c.deck, Source: source}, fuel, 1, c.code, c.line, 0)
		}
	}
}

// P22.1, stage 2: the source's line.
func TestParseStops(t *testing.T) {
	for _, c := range []struct {
		source string
		code   api.Errno
		line   int
	}{
		{"$", api.ErrForm, 1},
		{"tip\n\nwait 5nm", api.ErrForm, 3},
		{"tip\nwait 1001h", api.ErrRange, 2},
		{"tip\nwait\n\n", api.ErrForm, 2},
		{"wait 1s let 5\ndraw", api.ErrForm, 1},
		{"wait\n" + strings.Repeat("(", 51) + "1s", api.ErrSize, 2},
		{strings.Repeat("tip ", 5000), api.ErrSize, 0},
		{strings.Repeat("\n", 20001), api.ErrSize, 0},
	} {
		for _, d := range [][]api.Seat{nil, table()} {
			stops(t, on(d, c.source), fuel, 2, c.code, c.line, 0)
		}
	}
}

// P22.1, stage 3: the line of what has a wrong kind or name.
func TestCheckStops(t *testing.T) {
	stops(t, at("wait 1s", "wait 1nl"), fuel, 3, api.ErrKind, 2, 0)
	stops(t, at("wait 1s / 0", "", "wait x"), 0, 3, api.ErrName, 3, 0)
	stops(t, at("draw 1nl from x.A1"), fuel, 3, api.ErrNone, 1, 0)
	stops(t, at("wait 1s", "draw 1nl from p.C1"), fuel, 3, api.ErrRange, 2, 0)
	stops(t, on(nil, "", "put 1nl into p.A1"), fuel, 3, api.ErrNone, 2, 0)
	stops(t, at("let x = 1", "let x = 2"), fuel, 3, api.ErrTwice, 2, 0)
	stops(t, at("def f(x vol) { }", "do f()"), fuel, 3, api.ErrCount, 2, 0)
}

// P22.1, stage 4: the line of what can't be done, or not with that fuel. Nothing is told then of how many actions there
// were ahead of it.
func TestElabStops(t *testing.T) {
	stops(t, at("wait 1s", "wait 1s / 0"), fuel, 4, api.ErrNone, 2, 0)
	stops(t, at(fills, "", "draw 0nl from p.A1"), fuel, 4, api.ErrRange, 3, 0)
	stops(t, at("draw 1nl from p(3, 1)"), fuel, 4, api.ErrRange, 1, 0)
	stops(t, on([]api.Seat{plateP()}, "tip", "move 5nl from p.A1 into p.A2"), fuel, 4, api.ErrTip, 2, 0)
	stops(t, at("for i from 1 to 1000 {", "tip drop tip drop", "}"), api.MaxFuel, 4, api.ErrSize, 2, 0)
	loop := at("for i from 1 to 2 {", "wait 1ms", "}")
	for some, line := range []int{1, 1, 2, 1, 2} {
		stops(t, loop, some, 4, api.ErrFuel, line, 0)
	}
	ends(t, loop, 5, 2, 0, 0, 1636184)
}

// P22.1, stage 5: the number of the action that may not be, and how many there are.
func TestMeanStops(t *testing.T) {
	for _, c := range []struct {
		source        string
		code          api.Errno
		line, actions int
	}{
		{"draw 1nl from p.A1", api.ErrTip, 0, 1},
		{"drop wait 1s wait 1s", api.ErrTip, 0, 3},
		{"wait 1s\n\nwait 1s drop\n\nwait 1s", api.ErrTip, 2, 4},
		{"tip drop tip drop tip drop tip drop tip drop", api.ErrEnd, 8, 10},
		{"tip draw 1nl from p.A1 tip", api.ErrDry, 1, 3},
		{fills + " " + moves + " " + moves, api.ErrFull, 9, 13},
		{fills + ` fill p.A2 with "b" 5nl tip draw 1nl from p.A1 draw 1nl from p.A2`, api.ErrDirty, 4, 5},
		{`wait 1s fill r.A1 with "a" 1nl`, api.ErrKind, 1, 2},
		{"wait 277h wait 277h", api.ErrSize, 1, 2},
	} {
		stops(t, at(c.source), fuel, 5, c.code, c.line, c.actions)
	}
}

// P22.1, stage 6: nothing to drop a tip into; that comes behind all that may not be.
func TestCompileStops(t *testing.T) {
	d := table()[:3]
	stops(t, on(d, "tip drop"), fuel, 6, api.ErrNone, 1, 2)
	stops(t, on(d, "wait 1s", fills, moves, "wait 1s"), fuel, 6, api.ErrNone, 7, 9)
	stops(t, on(d, "tip drop wait 1s tip drop"), fuel, 6, api.ErrNone, 1, 5)
	stops(t, on(d, "tip drop wait 1s drop"), fuel, 5, api.ErrTip, 3, 4)
	if r, e := fleet.One(on(d, "tip"), fuel); r.Stage != 7 || r.Tips != 1 || e != api.OK {
		t.Error(r, e)
	}
}

// P22.1: a fuel that may not be, ahead of all.
func TestFuel(t *testing.T) {
	for _, j := range someJobs() {
		for _, f := range []int{-1, api.MaxFuel + 1, math.MinInt, math.MaxInt} {
			if r, e := fleet.One(j, f); r != (api.Report{}) || e != api.ErrRange {
				t.Errorf("One %q %d: %v, %v", j, f, r, e)
			}
		}
		for _, f := range []int{0, 1, api.MaxFuel} {
			if r, e := fleet.One(j, f); r != slowReport(j, f) || e != api.OK {
				t.Errorf("One %q %d: %v, %v; wanted %v", j, f, r, e, slowReport(j, f))
			}
		}
	}
	stops(t, at("wait 1s"), 0, 4, api.ErrFuel, 1, 0)
	endless := at("for i from 1 to 99999 {", "}")
	ends(t, endless, api.MaxFuel, 0, 0, 0, 1634184)
	stops(t, endless, api.MaxFuel-1, 4, api.ErrFuel, 1, 0)
}
