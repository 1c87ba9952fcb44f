package elab_test

import (
	"math"
	"slices"
	"strconv"
	"strings"
	"testing"
	"time"

	"workcell/api"
	"workcell/check"
	"workcell/elab"
	"workcell/tree"
)

// Wells of the table.
var (
	pA1 = place(1, 0, 0)
	pA2 = place(1, 0, 1)
	pB1 = place(1, 1, 0)
	pB3 = place(1, 1, 2)
	qA1 = place(5, 0, 0)
)

// runs: a source, how much it costs, and its trace.
var runs = []struct {
	source string
	cost   int
	trace  []api.Action
}{
	{"", 0, nil},
	// actions
	{`fill p.A1 with "a" 90nl`, 1, []api.Action{fill(pA1, "a", 90)}},
	{`fill p(2, 3) with "b7" 1.5ul + 2nl * 3`, 1, []api.Action{fill(pB3, "b7", 1506)}},
	{"draw 5nl from p.b3 put 3nl into q.A1", 2, []api.Action{draw(pB3, 5), put(qA1, 3)}},
	{"draw 1nl from p(1, 1) put 1000ml into p(1 + 1, 5 / 4)", 2, []api.Action{draw(pA1, 1), put(pB1, api.MaxVolume)}},
	{"put 1nl into t.A1 draw 1nl from r(2, 3)", 2, []api.Action{put(place(12, 0, 0), 1), draw(place(7, 1, 2), 1)}},
	{"tip drop drop tip", 4, []api.Action{tip, drop, drop, tip}},
	{"heat 37C heat 0mK", 2, []api.Action{{Kind: api.Warm, Value: 310150}, {Kind: api.Warm}}},
	{"hold 1h hold 0s wait 5ms wait 0ms", 4, []api.Action{{Kind: api.Hold, Time: 3600000}, {Kind: api.Hold}, wait(5), wait(0)}},
	{"shake 100rpm for 3s shake 0rpm for 0s", 2, []api.Action{{Kind: api.Shake, Value: 100, Time: 3000}, {Kind: api.Shake}}},
	// transfers
	{"move 20nl from p.A1 into q.A1", 1, []api.Action{tip, draw(pA1, 20), put(qA1, 20), drop}},
	{"move 1nl from p(2, 3) into p(2, 3)", 1, []api.Action{tip, draw(pB3, 1), put(pB3, 1), drop}},
	{"move 21nl from p.A1 into q.A1", 1, []api.Action{tip, draw(pA1, 11), put(qA1, 11), draw(pA1, 10), put(qA1, 10), drop}},
	{"move 50nl from p.A1 into q.A1", 1, []api.Action{tip, draw(pA1, 17), put(qA1, 17), draw(pA1, 17), put(qA1, 17), draw(pA1, 16), put(qA1, 16), drop}},
	// names
	{"let a = 2 set a = a + 1 wait 1ms * a", 3, []api.Action{wait(3)}},
	{"let a = 1ms let b = a set a = 2ms wait a wait b", 5, []api.Action{wait(2), wait(1)}},
	{"let a = 1ms if 1 < 2 { set a = 2ms let b = a set b = 9ms } wait a", 6, []api.Action{wait(2)}},
	{"if 1 < 2 { let a = 1ms wait a } let a = 5nl draw a from p.A1", 5, []api.Action{wait(1), draw(pA1, 5)}},
	// loops
	{"for i from 1 to 3 { draw 1ul from p(1, i) }", 7, []api.Action{draw(pA1, 1000), draw(pA2, 1000), draw(place(1, 0, 2), 1000)}},
	{"for i from 3 to 2 { wait 1s / 0 } wait 1ms", 2, []api.Action{wait(1)}},
	{"for i from 2 to 2 { wait 1ms * i }", 3, []api.Action{wait(2)}},
	{"for i from - 1 to 1 { wait 5ms + 1ms * i }", 7, []api.Action{wait(4), wait(5), wait(6)}},
	{"for i from 1 to 3 { } wait 1ms", 5, []api.Action{wait(1)}},
	{"for i from 1 to 3 { set i = i * 10 wait 1ms * i }", 10, []api.Action{wait(10), wait(20), wait(30)}},
	{"let a = 3 for i from 1 to a { set a = 1 wait 1ms * i } wait 1ms * a", 12, []api.Action{wait(1), wait(2), wait(3), wait(1)}},
	{"let s = 0 for i from 1 to 4 { let d = i * i set s = s + d } wait 1ms * s", 15, []api.Action{wait(30)}},
	{"for i from 1 to 2 { for j from i to 2 { wait 10ms * i + 1ms * j } } for j from 7 to 7 { wait 1ms * j }", 14, []api.Action{wait(11), wait(12), wait(22), wait(7)}},
	{"for i from 1 to 1 { } let i = 1ms wait i", 4, []api.Action{wait(1)}},
	// choices
	{"if 1 < 2 { wait 1ms }", 2, []api.Action{wait(1)}},
	{"if 2 < 2 { wait 1ms }", 1, nil},
	{"if 1 < 2 { wait 1ms } else { wait 2ms wait 3ms }", 2, []api.Action{wait(1)}},
	{"if 2 < 2 { wait 1ms } else { wait 2ms wait 3ms }", 3, []api.Action{wait(2), wait(3)}},
	{"if 3 < 2 { wait 1ms } else { wait 2ms } wait 3ms", 3, []api.Action{wait(2), wait(3)}},
	{"if - 3 < - 2 { wait 1ms } if 1ul < 1ml { tip } if 1C < 1K { } else { drop }", 6, []api.Action{wait(1), tip, drop}},
	// functions
	{"def f(x vol) { draw x from p.A1 } do f(4nl) do f(5nl)", 5, []api.Action{draw(pA1, 4), draw(pA1, 5)}},
	{"def f() { wait 1s / 0 }", 1, nil},
	{"def f() { } do f() wait 1ms", 3, []api.Action{wait(1)}},
	{"def f(a num, b time) { set a = a + 1 wait b * a } let a = 5ms let b = 1 do f(b, a) wait a wait 1ms * b", 8, []api.Action{wait(10), wait(5), wait(1)}},
	{"def f(a time) { set a = a + 1ms wait a } def g(a time, b time) { do f(b) do f(a) wait a wait b } do g(10ms, 20ms)", 11, []api.Action{wait(21), wait(11), wait(10), wait(20)}},
	{"def f(n num) { for i from 1 to n { let x = i wait 1ms * x } } for i from 1 to 2 { do f(i) }", 17, []api.Action{wait(1), wait(1), wait(2)}},
	{"def f(a num) { let b = a wait 1ms * b } let b = 9 do f(1) do f(b - 1)", 8, []api.Action{wait(1), wait(8)}},
}

// TestRun: programs that go through, with as much fuel as they cost and with more, whatever their lines are (P10.2).
func TestRun(t *testing.T) {
	for _, c := range runs {
		n := parsed(t, c.source)
		for _, fuel := range []int{c.cost, c.cost + 1, api.MaxFuel} {
			for _, n := range []api.Node{n, relined(n, func(line int) int { return -9 * line })} {
				trace, line, e := elab.Run(n, table(), fuel)
				if !slices.Equal(trace, c.trace) || line != 0 || e != api.OK {
					t.Errorf("%s with %d: %v %d %v, should be %v", c.source, fuel, trace, line, e, c.trace)
				}
			}
		}
	}
}

// TestRunFuel: with less than it costs a program is refused, and tells no action (P10.2).
func TestRunFuel(t *testing.T) {
	for _, c := range runs {
		n := numbered(parsed(t, c.source))
		for fuel := range c.cost {
			o := oracle{deck: table(), fuel: fuel}
			_, want := o.run(n)
			trace, line, e := elab.Run(n, table(), fuel)
			if len(trace) > 0 || want.code != api.ErrFuel || (verdict{line, e}) != want {
				t.Errorf("%s with %d: %v %d %v, should be %v", c.source, fuel, trace, line, e, want)
			}
		}
	}
}

// TestRunFuelLines: which statement, or which For, costs too much; that is told ahead of all that it does (P10.2).
func TestRunFuelLines(t *testing.T) {
	for _, c := range []struct {
		text string
		fuel int
	}{
		{"!tip drop", 0}, {"tip !drop", 1}, {"!wait 1s / 0", 0}, {"!draw 0nl from p ( 9 , 1 / 0 )", 0}, {"!let a = 1 / 0", 0}, {"let a = 1 !set a = 1 / 0", 1},
		{"!for i from 1 / 0 to 3 { tip }", 0}, {"!for i from 1 to 3 { tip }", 1}, {"for i from 1 to 3 { !tip }", 2}, {"!for i from 1 to 3 { tip }", 3}, {"for i from 1 to 3 { !tip }", 6},
		{"for i from 1 to 3 { } !tip", 4}, {"!for i from 1 to 3 { wait 1s / 0 }", 1}, {"for i from 1 to 3 { !wait 1s / 0 }", 2},
		{"for i from 1 to 2 { !for j from 1 to 2 { tip } }", 3}, {"for i from 1 to 2 { for j from 1 to 2 { !tip } }", 4}, {"!for i from 1 to 2 { for j from 1 to 2 { tip } }", 7},
		{"!if 1 < 1 / 0 { tip } else { drop }", 0}, {"if 1 < 2 { !tip } else { drop }", 1}, {"if 2 < 2 { tip } else { !drop }", 1}, {"if 2 < 2 { tip } !drop", 1},
		{"!def f ( ) { tip }", 0}, {"def f ( ) { tip } !do f ( )", 1}, {"def f ( ) { !tip } do f ( )", 2}, {"def f ( ) { tip } do f ( ) !drop", 3}, {"def f ( n num ) { } !do f ( 1 / 0 )", 1},
		{"!move 0nl from p.A1 into q.A1", 0}, {"move 100nl from p.A1 into q.A1 !tip", 1},
		{"!for i from - 1000000000 to 1000000000 { }", api.MaxFuel}, {"!for i from 1 to 1000000000 { for j from 1 to 0 { } let a = i }", api.MaxFuel},
	} {
		trace, line, e := elab.Run(parsed(t, unmarked(c.text)), table(), c.fuel)
		if len(trace) > 0 || line != lineOf(c.text) || e != api.ErrFuel {
			t.Errorf("%s with %d: %v %d %v", c.text, c.fuel, trace, line, e)
		}
	}
}

// faults: programs that stop; of the word with the mark the line is told.
func faults() map[api.Errno][]string {
	return map[api.Errno][]string{
		api.ErrRange: {
			// volumes
			`!fill p . A1 with "a" 0nl`, `!fill p . A1 with "a" - 1nl`, "!draw 0nl from p . A1", "!draw 1nl - 2nl from p . A1", "!put 0ul into p . A1", "!put - 1ml into p ( 1 , 1 )",
			"!move 0nl from p . A1 into q . A1", "!move - 5nl from p . A1 into q . A1", "!draw 1nl / 2 from p . A1",
			// heats, times, turns
			"!heat - 1mK", "!heat 0C - 273151mK", "!hold - 1ms", "!wait - 1ms", "!wait 1s - 1h", "!shake - 1rpm for 1s", "!shake 1rpm for - 1ms", "!shake - 1rpm for - 1s",
			// wells: behind both values
			"draw 1nl from !p ( 0 , 1 )", "draw 1nl from !p ( 1 , 0 )", "draw 1nl from !p ( 3 , 1 )", "draw 1nl from !p ( 1 , 4 )", "draw 1nl from !p ( - 1 , 1 )", "draw 1nl from !p ( 1 , - 1 )",
			"put 1nl into !q ( 2 , 1 )", "put 1nl into !q ( 1 , 2 )", "put 1nl into !t ( 1000000000 , - 1000000000 )", `fill !p ( 3 , 3 ) with "a" 1nl`, `fill !p ( 2 , 4 ) with "a" 1nl`,
			"move 1nl from !p ( 0 , 0 ) into q . A1", "move 1nl from q . A1 into !p ( 0 , 0 )", "move 1nl from !p ( 0 , 0 ) into q ( 0 , 0 )",
			"draw 1nl from p ( 0 , 1000000000 !+ 1 )", "draw 1nl from p ( 1000000000 !* 2 , 0 )",
			// kids in their order, then the statement
			`fill !p ( 0 , 1 ) with "a" 0nl`, "draw 0nl from !p ( 0 , 1 )", "put - 1nl into !p ( 0 , 1 )", "move 0nl from p . A1 into !q ( 0 , 1 )", "draw 1000ml !+ 1nl from p ( 0 , 1 )",
			`fill !p ( 0 , 1 ) with "a" 1000ml * 2`, "move 1000ml !* 2 from p ( 0 , 0 ) into p ( 0 , 0 )", "shake - 1rpm for 1000000s !* 2",
			// values
			"let a = 1000000000 !+ 1", "let a = 1nl set a = a * 1000000000 !* 2 - a", "let a = 2nl set a = a !* 1000000000", "wait 1000000s !* 2", "heat 1000000K !+ 1mK", "hold 1000000s !+ 1ms", "shake 1000000000rpm !+ 1rpm for - 1s",
			"for i from 1000000000 !+ 1 to 2 { }", "for i from 5 to 1000000000 !* 2 { }", "if 1 < 1000000000 !* 3 { }", "if 1000000000 !+ 2 < 1 / 0 { }",
			"def f ( a num , b vol ) { } do f ( 1 , 1000ml !+ 1nl )", "def f ( a num ) { set a = a !+ 1 } do f ( 999999999 ) do f ( 1000000000 )",
			// inside
			"for i from 1 to 3 { draw 1nl from !p ( i , 1 ) }", "for i from - 1 to 3 { !wait 1ms * i }", "if 1 < 2 { !wait - 1ms } else { }", "if 2 < 2 { } else { !heat - 1mK }", "def f ( x vol ) { !draw x from p . A1 } do f ( 2nl ) do f ( 0nl )",
			"for i from 1 to 9 { let a = 1000ml !* i }",
		},
		api.ErrNone: {
			"let a = 1 !/ 0", "let a = 0 let b = 1nl !/ a", "wait 1s !/ 0", "draw 1nl !/ 0 from p ( 0 , 1 )", "draw 0nl from p ( 1 !/ 0 , 1 )", "draw 1nl from p ( 0 , 1 !/ 0 )", `fill p ( 1 !/ 0 , 1 ) with "a" 1nl / 0`,
			`fill p . A1 with "a" 1nl !/ 0`, "move 0nl from p . A1 into q ( 1 !/ 0 , 1 )", "shake - 1rpm for 1s !/ 0", "for i from 1 !/ 0 to 1 { }", "for i from 1 to 1 !/ 0 { }", "if 1 !/ 0 < 1 { }", "if 1 < 1 !/ 0 { }",
			"for i from - 2 to 2 { let a = 1 !/ i }", "def f ( x num ) { let a = 1 !/ x } do f ( 1 ) do f ( 0 )", "def f ( x num ) { tip } do f ( 1 !/ 0 )", "if 2 < 2 { let a = 1 / 0 } else { let a = 1 !/ 0 }",
		},
		api.ErrCount: {"!move 20001nl from p . A1 into q . A1", "!move 1000ml from p . A1 into q . A1", "tip if 1 < 2 { !move 20001nl from p ( 1 , 1 ) into p ( 1 , 1 ) }"},
		api.ErrSize: {
			"for i from 1 to 3001 { !tip }", "for i from 1 to 3000 { tip } !drop", "for i from 1 to 1000 { tip drop wait 1s } !hold 1s",
			"for i from 1 to 2000 { tip } !move 20000nl from p . A1 into q . A1", "for i from 1 to 2997 { tip } !move 1nl from p . A1 into q . A1", "for i from 1 to 9 { !move 20000nl from p . A1 into q . A1 }",
			"def f ( ) { !tip } for i from 1 to 9999 { do f ( ) }", `for i from 1 to 3000 { tip } if 1 < 2 { !fill p . A1 with "a" 1nl }`,
		},
	}
}

// TestRunFaults: the first fault that is come to; also behind what goes through, and ahead of what does not (P10.2).
func TestRunFaults(t *testing.T) {
	for want, texts := range faults() {
		for _, text := range texts {
			source := unmarked(text)
			for _, more := range []struct{ ahead, behind string }{{}, {"let z = 0ms\ndef q (k vol) { wait 1s / 0 }\n", "\nlet y = z / 0 wait - 1s"}} {
				trace, line, e := elab.Run(parsed(t, more.ahead+source+more.behind), table(), api.MaxFuel)
				if len(trace) > 0 || line != lineOf(text)+strings.Count(more.ahead, "\n") || e != want {
					t.Errorf("%s: %d actions, %d %v, should be %v", text, len(trace), line, e, want)
				}
			}
		}
	}
}

// TestRunFaultsInside: a fault is found wherever its statements stand, in the turn that comes to it (P10.2).
func TestRunFaultsInside(t *testing.T) {
	for want, texts := range faults() {
		for _, text := range texts {
			if strings.Contains(text, "def") {
				continue // no function stands in a block
			}
			for _, around := range []string{
				"if 1 < 2 {\n%}", "if 2 < 2 { } else {\n%}", "for k from 1 to 2 {\n%}", "def k (k num) {\n%} do k(1)", "def k () { if 1 < 2 {\n%} } do k() tip", "for k from 1 to 2 { if 1 < k {\n%} }",
			} {
				_, line, e := elab.Run(parsed(t, strings.Replace(around, "%", unmarked(text)+"\n", 1)), table(), api.MaxFuel)
				if line != lineOf(text)+1 || e != want {
					t.Errorf("%s in %s: %d %v, should be %v", text, around, line, e, want)
				}
			}
		}
	}
}

// TestRunTips: the tips of the rack in the least slot tell the parts; without a rack there is no move (P10.2).
func TestRunTips(t *testing.T) {
	swapped := table()
	swapped[1].Slot, swapped[2].Slot = swapped[2].Slot, swapped[1].Slot
	turned := table()
	slices.Reverse(turned)
	refused := "move 21nl from p.A1 into q.A1"
	for i, c := range []struct {
		source string
		d      []api.Seat
		parts  int
		want   verdict
	}{
		{"move 21nl from p.A1 into q.A1", table(), 2, verdict{}},
		{"move 21nl from p.A1 into q.A1", turned, 2, verdict{}},
		{"move 21nl from p.A1 into q.A1", swapped, 1, verdict{}},
		{"move 1001nl from p.A1 into q.A1", swapped, 2, verdict{}},
		{"move 20000nl from p.A1 into q.A1", table(), 1000, verdict{}},
		{"move 20000nl from p.A1 into q.A1", tips(19), 0, verdict{1, api.ErrCount}},
		{"move 1000nl from p.A1 into q.A1", tips(1), 1000, verdict{}},
		{"move 1001nl from p.A1 into q.A1", tips(1), 0, verdict{1, api.ErrCount}},
		{"move 1000ml from p.A1 into q.A1", tips(api.MaxVolume), 1, verdict{}},
		{"move 1000ml from p.A1 into q.A1", tips(1000000), 1000, verdict{}},
		{"move 1000ml from p.A1 into q.A1", tips(999999), 0, verdict{1, api.ErrCount}},
		{refused, without(), 0, verdict{1, api.ErrTip}},
		{"move 1000ml from p.A1 into q.A1", without(), 0, verdict{1, api.ErrTip}},
		{"\nmove 0nl from p.A1\ninto q.A1", without(), 0, verdict{2, api.ErrRange}},
		{"\nmove 0nl from p.A1\ninto\nq(1, 2)", without(), 0, verdict{4, api.ErrRange}},
		{"move 1nl / 0 from p.A1 into q.A1", without(), 0, verdict{1, api.ErrNone}},
	} {
		trace, line, e := elab.Run(parsed(t, c.source), c.d, 9)
		if (verdict{line, e}) != c.want || e == api.OK && len(trace) != 2*c.parts+2 || e != api.OK && len(trace) > 0 {
			t.Errorf("case %d: %d actions, %d %v, should be %d parts, %v", i, len(trace), line, e, c.parts, c.want)
		}
	}
	// All else goes without a rack.
	trace, line, e := elab.Run(parsed(t, "tip draw 1nl from p.A1 put 1nl into q.A1 drop"), without(), 9)
	if !slices.Equal(trace, []api.Action{tip, draw(pA1, 1), put(qA1, 1), drop}) || line != 0 || e != api.OK {
		t.Error("without a rack:", trace, line, e)
	}
}

// TestRunSize: as many actions as may be, and what is told ahead of one too many (P10.2).
func TestRunSize(t *testing.T) {
	for _, c := range []struct {
		text  string
		trace int
		want  api.Errno
	}{
		{"for i from 1 to 3000 { tip }", api.MaxTrace, api.OK},
		{"for i from 1 to 3000 { tip } let a = 1 for i from 1 to 9 { set a = i } if a < 1 { tip }", api.MaxTrace, api.OK},
		{"for i from 1 to 2996 { tip } move 1nl from p.A1 into q.A1", api.MaxTrace, api.OK},
		{"for i from 1 to 998 { tip } move 20000nl from p.A1 into q.A1", api.MaxTrace, api.OK},
		{"for i from 1 to 3000 { tip } !wait 1s", 0, api.ErrSize},
		{"for i from 1 to 3000 { tip } !wait - 1s", 0, api.ErrRange},
		{"for i from 1 to 3000 { tip } wait 1s !/ 0", 0, api.ErrNone},
		{"for i from 1 to 3000 { tip } draw 1nl from !p ( 0 , 1 )", 0, api.ErrRange},
		{"for i from 1 to 3000 { tip } !move 20001nl from p.A1 into q.A1", 0, api.ErrCount},
		{"for i from 1 to 3000 { tip } !move 20000nl from p.A1 into q.A1 tip", 0, api.ErrSize},
	} {
		trace, line, e := elab.Run(parsed(t, unmarked(c.text)), table(), api.MaxFuel)
		if len(trace) != c.trace || line != lineOf(c.text) || e != c.want {
			t.Errorf("%s: %d actions, %d %v, should be %d, %v", c.text, len(trace), line, e, c.trace, c.want)
		}
	}
	// What costs too much is told ahead of it: 1, and 2 a turn.
	trace, line, e := elab.Run(parsed(t, unmarked("for i from 1 to 3000 { tip } drop")), table(), 6001)
	if len(trace) > 0 || line != 10 || e != api.ErrFuel {
		t.Error(len(trace), line, e)
	}
}

// TestRunWells: of each ware just its own wells, by rows and columns from 1 on (P10.2).
func TestRunWells(t *testing.T) {
	n := parsed(t, "let r = 0 let c = 0 put 1nl into\nw\n(\nr, c)")
	for _, s := range table() {
		n.Kids[2].Kids[1].Text = s.Name
		for row := -1; row <= api.MaxRows+1; row++ {
			for column := -1; column <= api.MaxColumns+1; column++ {
				n.Kids[0].Kids[0] = number(row)
				n.Kids[1].Kids[0] = number(column)
				trace, line, e := elab.Run(n, table(), 3)
				if row < 1 || row > s.Ware.Rows || column < 1 || column > s.Ware.Columns {
					if len(trace) > 0 || line != 2 || e != api.ErrRange {
						t.Errorf("%s(%d, %d): %v %d %v", s.Name, row, column, trace, line, e)
					}
				} else if !slices.Equal(trace, []api.Action{put(place(s.Slot, row-1, column-1), 1)}) || line != 0 || e != api.OK {
					t.Errorf("%s(%d, %d): %v %d %v", s.Name, row, column, trace, line, e)
				}
			}
		}
	}
}

// TestRunAhead: what check.Check says, then the fuel, ahead of all (P10.2).
func TestRunAhead(t *testing.T) {
	good := numbered(parsed(t, "tip"))
	wrong := numbered(parsed(t, "wait 1s / 0 wait nobody"))
	form := program(of(api.Tip, "x"))
	twice := table()
	twice[3].Name = "p"
	_, named := check.Check(wrong, table())
	if named != api.ErrName {
		t.Fatal(named)
	}
	for i, c := range []struct {
		n    api.Node
		d    []api.Seat
		fuel int
		want verdict
	}{
		{api.Node{}, table(), 9, verdict{0, api.ErrForm}},
		{form, twice, -1, verdict{0, api.ErrForm}},
		{numbered(value("1")), table(), 9, verdict{0, api.ErrForm}},
		{numbered(block()), table(), 9, verdict{0, api.ErrForm}},
		{program(slices.Repeat([]api.Node{of(api.Tip, "")}, api.MaxNodes)...), table(), -1, verdict{0, api.ErrSize}},
		{good, twice, 9, verdict{0, api.ErrTwice}},
		{wrong, twice, -1, verdict{0, api.ErrTwice}},
		{wrong, table(), 9, verdict{7, api.ErrName}},
		{wrong, table(), 0, verdict{7, api.ErrName}},
		{wrong, table(), -1, verdict{7, api.ErrName}},
		{good, table(), -1, verdict{0, api.ErrRange}},
		{good, table(), math.MinInt, verdict{0, api.ErrRange}},
		{good, table(), api.MaxFuel + 1, verdict{0, api.ErrRange}},
		{good, table(), math.MaxInt, verdict{0, api.ErrRange}},
		{program(), nil, -1, verdict{0, api.ErrRange}},
		{program(), nil, api.MaxFuel + 1, verdict{0, api.ErrRange}},
		{program(), nil, api.MaxFuel, verdict{}},
		{program(), nil, 0, verdict{}},
		{good, nil, 0, verdict{2, api.ErrFuel}},
	} {
		trace, line, e := elab.Run(c.n, c.d, c.fuel)
		if len(trace) > 0 || (verdict{line, e}) != c.want {
			t.Errorf("case %d: %v %d %v, should be %v", i, trace, line, e, c.want)
		}
	}
	if trace, line, e := elab.Run(good, nil, api.MaxFuel); !slices.Equal(trace, []api.Action{tip}) || line != 0 || e != api.OK {
		t.Error(trace, line, e)
	}
}

// number: a whole one, below 0, too.
func number(i int) api.Node {
	if i < 0 {
		return minus(number(-i))
	}
	return value(strconv.Itoa(i))
}

// drawn: a program with a line a node, that may be.
func drawn(d *die) api.Node {
	w := drawer{die: d, wild: pick(d, 4, 20, 100)}
	return numbered(w.program())
}

// TestRunDrawn: many programs, held against the oracle. What is handed in stays as it is (P10.2).
func TestRunDrawn(t *testing.T) {
	d := die(3)
	seen := map[api.Errno]int{}
	for range 20000 {
		n, fuel := drawn(&d), pick(&d, d.n(9), d.n(60), 300)
		seats := table()
		if d.n(20) == 0 {
			seats = without()
		}
		if line, e := check.Check(n, seats); e != api.OK {
			t.Fatal("drawn, but it may not be:", n, line, e)
		}
		before, was := copied(n), slices.Clone(seats)
		o := oracle{deck: seats, fuel: fuel}
		want, wrong := o.run(n)
		trace, line, e := elab.Run(n, seats, fuel)
		if !slices.Equal(trace, want) || (verdict{line, e}) != wrong {
			text, _ := tree.Show(n)
			t.Fatalf("%s%v with %d: %v %d %v, should be %v %v", text, n, fuel, trace, line, e, want, wrong)
		}
		if !same(n, before) || !slices.Equal(seats, was) {
			t.Fatal("changed:", before)
		}
		seen[e]++
	}
	for _, e := range []api.Errno{api.OK, api.ErrRange, api.ErrNone, api.ErrCount, api.ErrTip, api.ErrFuel} {
		if seen[e] < 40 {
			t.Error("too few of", e, seen)
		}
	}
}

// TestRunMoreFuel: more fuel never changes what is told, but ErrFuel; just what the oracle counts is needed (P10.2).
func TestRunMoreFuel(t *testing.T) {
	d := die(6)
	for range 1500 {
		n := drawn(&d)
		o := oracle{deck: table(), fuel: 400}
		want, wrong := o.run(n)
		if wrong.code == api.ErrFuel {
			continue
		}
		for _, fuel := range []int{0, o.paid / 2, o.paid - 1, o.paid, o.paid + 1, 400, api.MaxFuel} {
			trace, line, e := elab.Run(n, table(), max(fuel, 0))
			if fuel >= o.paid && (!slices.Equal(trace, want) || (verdict{line, e}) != wrong) || fuel < o.paid && fuel >= 0 && e != api.ErrFuel {
				t.Fatalf("%v with %d of %d: %v %d %v, should be %v %v", n, fuel, o.paid, trace, line, e, want, wrong)
			}
		}
	}
}

// TestRunLines: a trace does not hang on lines; a fault goes where its node goes (P10.2).
func TestRunLines(t *testing.T) {
	d := die(4)
	for range 1500 {
		n, fuel := drawn(&d), pick(&d, 5, 300)
		want, line, e := elab.Run(n, table(), fuel)
		for _, moved := range []func(int) int{
			func(int) int { return 0 },
			func(line int) int { return -line },
			func(line int) int { return math.MaxInt - line },
			func(line int) int { return line * 7 % 5 },
		} {
			wrong := verdict{code: e}
			if e != api.OK {
				wrong.line = moved(line)
			}
			trace, line, e := elab.Run(relined(n, moved), table(), fuel)
			if !slices.Equal(trace, want) || (verdict{line, e}) != wrong {
				t.Fatalf("%v: %v %d %v, should be %v %v", n, trace, line, e, want, wrong)
			}
		}
	}
}

// TestRunShown: what is shown and parsed again does the same.
func TestRunShown(t *testing.T) {
	d := die(5)
	for range 1000 {
		n := drawn(&d)
		text, _ := tree.Show(n)
		want, _, wrong := elab.Run(n, table(), 200)
		if trace, _, e := elab.Run(parsed(t, text), table(), 200); !slices.Equal(trace, want) || e != wrong {
			t.Fatalf("%s: %v %v, should be %v %v", text, trace, e, want, wrong)
		}
	}
}

// TestRunNewMemory: no two answers share any, spare room neither.
func TestRunNewMemory(t *testing.T) {
	n := parsed(t, "for i from 1 to 5 { tip wait 1ms * i }")
	first, _, _ := elab.Run(n, table(), 99)
	second, _, _ := elab.Run(n, table(), 99)
	want := slices.Clone(second)
	for i := range first[:cap(first)] {
		first[:cap(first)][i] = api.Action{Kind: -1}
	}
	third, _, _ := elab.Run(n, table(), 99)
	if !slices.Equal(second, want) || !slices.Equal(third, want) {
		t.Error(second, third)
	}
}

// TestRunDeep: functions as far within one another as a program has room for, and blocks as deep as may be (P10.2).
func TestRunDeep(t *testing.T) {
	calls := []api.Node{of(api.Define, "f", block(of(api.Tip, "")))}
	last := "f"
	for i := range api.MaxNodes/3 - 2 {
		next := "f" + strconv.Itoa(i)
		calls = append(calls, of(api.Define, next, block(of(api.Do, last))))
		last = next
	}
	n := program(append(calls, of(api.Do, last))...)
	if trace, line, e := elab.Run(n, nil, api.MaxFuel); !slices.Equal(trace, []api.Action{tip}) || line != 0 || e != api.OK {
		t.Error(trace, line, e)
	}
	source := strings.Repeat("if 1 < 2 {\n", api.MaxDepth) + "tip" + strings.Repeat("\n}", api.MaxDepth)
	if trace, line, e := elab.Run(parsed(t, source), nil, api.MaxDepth+1); !slices.Equal(trace, []api.Action{tip}) || line != 0 || e != api.OK {
		t.Error(trace, line, e)
	}
	if trace, line, e := elab.Run(parsed(t, source), nil, api.MaxDepth); len(trace) > 0 || line != api.MaxDepth+1 || e != api.ErrFuel {
		t.Error(trace, line, e)
	}
}

// TestRunEnds: all fuel, on functions that call each other twice, and on a great expression in a loop.
func TestRunEnds(t *testing.T) {
	source := "def f () { let a = 1 }\n"
	last := "f"
	for range 60 {
		source += "def " + last + "f () { do " + last + "() do " + last + "() }\n"
		last += "f"
	}
	begun := time.Now()
	if trace, _, e := elab.Run(parsed(t, source+"do "+last+"()"), nil, api.MaxFuel); len(trace) > 0 || e != api.ErrFuel {
		t.Error(len(trace), e)
	}
	source = "for i from 1 to 9999 { let a = 1" + strings.Repeat(" + 0.001s / 1ms", 300) + " } wait 1ms"
	if trace, _, e := elab.Run(parsed(t, source), nil, api.MaxFuel); !slices.Equal(trace, []api.Action{wait(1)}) || e != api.OK {
		t.Error(len(trace), e)
	}
	if took := time.Since(begun); took > time.Minute {
		t.Error("it took", took)
	}
}

// TestExample: the chapter's.
func TestExample(t *testing.T) {
	d := tips(20)
	d[2].Ware.Rows = 3
	n := parsed(t, "for i from 1 to 3 { draw 1ul from p(i, 1) }")
	want := []api.Action{draw(pA1, 1000), draw(pB1, 1000), draw(place(1, 2, 0), 1000)}
	if trace, line, e := elab.Run(n, d, 7); !slices.Equal(trace, want) || line != 0 || e != api.OK {
		t.Error(trace, line, e)
	}
	if trace, line, e := elab.Run(n, d, 6); len(trace) > 0 || line != 1 || e != api.ErrFuel {
		t.Error(trace, line, e)
	}
}

// FuzzRun: whatever is parsed is told as the oracle tells it.
func FuzzRun(f *testing.F) {
	for _, c := range runs {
		f.Add(c.source, c.cost)
	}
	for _, texts := range faults() {
		for _, text := range texts {
			f.Add(unmarked(text), 500)
		}
	}
	f.Fuzz(func(t *testing.T, source string, fuel int) {
		n, _, e := tree.Parse(source)
		if e != api.OK {
			return
		}
		n = numbered(n)
		fuel = min(fuel, 5000)
		var want []api.Action
		line, e := check.Check(n, table())
		wrong := verdict{line, e}
		if e == api.OK && fuel < 0 {
			wrong = verdict{0, api.ErrRange}
		} else if e == api.OK {
			o := oracle{deck: table(), fuel: fuel}
			want, wrong = o.run(n)
		}
		if trace, line, e := elab.Run(n, table(), fuel); !slices.Equal(trace, want) || (verdict{line, e}) != wrong {
			t.Fatalf("%q with %d: %v %d %v, should be %v %v", source, fuel, trace, line, e, want, wrong)
		}
	})
}
