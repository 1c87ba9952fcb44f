package desk_test

import (
	"fmt"
	"strings"
	"testing"

	"workcell/api"
)

// P23.1, seat: what comes to the deck, and that the state begins anew with it.
func TestSeat(t *testing.T) {
	talk(t,
		turn{`do heat 1K wait 1ms`, "done 2"}, turn{"state", "0 1000 1"},
		turn{seatLine(seat(1, "p", api.Plate, 2, 3, 200)), "ok"}, turn{"state", "0 0 0"},
		turn{"well p.B3", "empty"}, turn{"well q.A1", "none"},
		turn{`do fill p.B3 with "a" 7nl`, "done 1"}, turn{"well p.B3", "a 7"},
		turn{seatLine(seat(7, "r", api.Rack, 1, 2, 20)), "ok"}, turn{"well p.B3", "empty"},
		turn{`do fill p.B3 with "a" 7nl tip draw 2nl from p.B3 heat 2K wait 5ms`, "done 5"},
		turn{"state", "1 2000 5"}, turn{"tip", "a 2"}, turn{"well p.B3", "a 5"},
		turn{seatLine(seat(5, "q", api.Plate, 1, 1, 30)), "ok"},
		turn{"state", "0 0 0"}, turn{"tip", "no tip"}, turn{"well p.B3", "empty"}, turn{"well q.A1", "empty"},
		turn{"do tip drop tip drop", "done 4"}, turn{"do tip", "error 19"})
}

// P23.1, seat: a line of a deck's text without signs brings no seat.
func TestSeatOfNothing(t *testing.T) {
	talkAtTable(t,
		turn{`do fill p.A1 with "a" 7nl wait 1ms`, "done 2"}, turn{"seat ", "ok"},
		turn{"state", "0 0 0"}, turn{"well p.A1", "empty"}, turn{"well q.A1", "empty"}, turn{"do tip", "done 1"})
}

// P23.1, seat: what deck.Read says of the line alone, ahead of what deck.Check says of the deck with it; a line that
// is refused changes nothing.
func TestSeatRefused(t *testing.T) {
	for _, c := range []struct{ rest, answer string }{
		{"x", "error 1"},
		{" ", "error 1"},
		{"2 z w plate 2 3 0 0 1000 60000 30000 14000 10000", "error 1"},
		{"2 z w plate 2 3 0 0 1000 60000 30000 14000 10000 200 1", "error 1"},
		{"2  z w plate 2 3 0 0 1000 60000 30000 14000 10000 200", "error 1"},
		{"02 z w plate 2 3 0 0 1000 60000 30000 14000 10000 200", "error 1"},
		{"2 z w plates 2 3 0 0 1000 60000 30000 14000 10000 200", "error 1"},
		{"2 z W plate 2 3 0 0 1000 60000 30000 14000 10000 200", "error 1"},
		{"2 z w plate 2 3 0 0 1000 60000 30000 14000 10000 200\r", "error 1"},
		{"0 z w plate 2 3 0 0 1000 60000 30000 14000 10000 200", "error 2"},
		{"13 z w plate 2 3 0 0 1000 60000 30000 14000 10000 200", "error 2"},
		{"2 Z w plate 2 3 0 0 1000 60000 30000 14000 10000 200", "error 3"},
		{"2 z w plate 17 3 0 0 1000 60000 30000 14000 10000 200", "error 7"},
		{"2 z w plate 2 3 0 0 0 60000 30000 14000 10000 200", "error 2"},
		{"2 z w plate 2 3 0 0 1000 60000 30000 14000 10000 0", "error 2"},
		{"2 z w plate 2 3 0 0 1000 60000 30000 14000 14001 200", "error 8"},
		{"2 z w plate 2 3 0 0 1000 132501 30000 14000 10000 200", "error 8"},
		{"1 z w plate 2 3 0 0 1000 60000 30000 14000 10000 200", "error 4"},
		{"2 p w plate 2 3 0 0 1000 60000 30000 14000 10000 200", "error 4"},
		{"1 p w plate 2 3 0 0 1000 60000 30000 14000 10000 200", "error 4"},
		// More than one of them.
		{"1 p w plates 2 3 0 0 1000 60000 30000 14000 10000 200", "error 1"},
		{"13 p w plate 2 3 0 0 1000 60000 30000 14000 10000 200", "error 2"},
		{"1 z w plate 2 3 0 0 1000 60000 30000 14000 14001 200", "error 8"},
		{"1 z w plate 2 3 0 0 1000 132501 30000 14000 10000 200", "error 8"},
	} {
		talkAtTable(t,
			turn{`do fill p.A1 with "a" 7nl tip draw 3nl from p.A1 heat 1K wait 2ms`, "done 5"},
			turn{"seat " + c.rest, c.answer},
			turn{"state", "1 1000 2"}, turn{"well p.A1", "a 4"}, turn{"tip", "a 3"}, turn{"well z.A1", "none"},
			turn{seatLine(seat(2, "z", api.Plate, 1, 1, 10)), "ok"}, turn{"well z.A1", "empty"})
	}
}

// P23.1, seat: more seats than there are slots.
func TestSeatsTooMany(t *testing.T) {
	var turns []turn
	for i := range api.Slots {
		turns = append(turns, turn{seatLine(seat(api.Slots-i, fmt.Sprint("s", i), api.Plate, 1, 1, 10)), "ok"})
	}
	talk(t, append(turns,
		turn{`do fill s11.A1 with "a" 1nl`, "done 1"},
		// That there are too many is told ahead of one that comes twice, behind what the line tells alone.
		turn{seatLine(seat(1, "s0", api.Plate, 1, 1, 10)), "error 7"},
		turn{seatLine(seat(3, "z", api.Plate, 1, 1, 10)), "error 7"},
		turn{"seat 13 z", "error 1"},
		turn{"seat 13 z w plate 1 1 0 0 1000 60000 30000 14000 10000 200", "error 2"},
		turn{"well s11.A1", "a 1"}, turn{"well z.A1", "none"})...)
}

// P23.1, do: how many actions there are, and what comes of them.
func TestDo(t *testing.T) {
	talkAtTable(t,
		turn{`do fill p.A1 with "a" 90nl`, "done 1"},
		turn{"do move 25nl from p.A1 into q.A1", "done 6"}, // a tip has 20
		turn{"well p.A1", "a 65"}, turn{"well q.A1", "a 25"}, turn{"state", "1 0 0"}, turn{"tip", "no tip"},
		turn{`do tip draw 5nl from p.A1 fill p.A2 with "b" 1nl put 2nl into p.A2`, "done 4"},
		turn{"tip", "a 3"}, turn{"well p.A2", "b 1, a 2"}, turn{"state", "2 0 0"},
		turn{"do put 3nl into p.A2 drop", "done 2"}, turn{"well p.A2", "b 1, a 5"}, turn{"tip", "no tip"},
		turn{"do # nothing", "done 0"}, turn{"do let a = 1", "done 0"}, turn{"do if 1 < 1 { tip } else { }", "done 0"},
		turn{"do for i from 1 to 3 { wait 1ms * i }", "done 3"}, turn{"state", "2 0 6"},
		turn{"do def f(x vol) { move x from p.A1 into p.B1 } do f(4nl) do f(1nl)", "done 8"}, turn{"well p.B1", "a 5"},
		turn{"do heat 4C shake 10rpm for 2ms heat 37C hold 1ms", "done 4"}, turn{"state", "4 310150 9"})
}

// P23.1, do: the first error's number; the state stays as it was.
func TestDoRefused(t *testing.T) {
	for _, c := range []struct{ source, answer string }{
		{"$", "error 1"}, {"let 5", "error 1"}, {"tip ;", "error 1"}, {"wait", "error 1"}, {`fill p.A1 with "A" 1nl`, "error 1"},
		{"state", "error 1"}, {"do wait 1ms", "error 1"}, {"wait 1.2345s", "error 1"}, {"wait 2000000s", "error 2"},
		{"wait " + strings.Repeat("(", 51) + "1s" + strings.Repeat(")", 51), "error 8"},
		{"wait a", "error 3"}, {"let a = 1s let a = 2s", "error 4"}, {"put 1nl into z.A1", "error 5"}, {"wait 1nl", "error 6"},
		{"put 1nl into p.C1", "error 2"}, {"def f(x vol) { } do f()", "error 7"}, {"tip { def f() { } }", "error 1"},
		{"if 1 < 2 { def f() { } }", "error 17"},
		{"wait 1s / 0", "error 5"}, {"wait 0s - 1s", "error 2"}, {"put 1nl into p(3, 1)", "error 2"}, {"draw 0nl from p.A1", "error 2"},
		{"for i from 1 to 1000 { }", "error 16"}, {"move 1ul from p.A1 into p.A1 " + strings.Repeat(" move 1ul from p.A1 into p.A1", 30), "error 8"},
		{"tip", "error 12"}, {"drop drop", "error 12"}, {"put 10nl into p.A2", "error 10"}, {"draw 100nl from p.A1", "error 10"},
		{"drop tip draw 21nl from p.A1", "error 9"}, {"draw 1nl from p.B2", "error 11"}, {"put 1nl into q.A1 put 1nl into q.A1", "error 9"},
		{"put 1nl into r.A1", "error 6"}, {"drop tip drop tip drop tip drop tip drop", "error 19"},
		{"wait 277h wait 277h", "error 8"}, {`fill q.A1 with "c" 29nl fill p.A2 with "c" 201nl`, "error 9"},
		// The first one of several: form, kinds and names, what a protocol does, what is done to liquids.
		{"wait a $", "error 1"}, {"wait 1s / 0 wait 1nl", "error 6"}, {"draw 100nl from p.A1 wait 1s / 0", "error 5"},
		{"drop drop wait 1nl", "error 6"}, {"drop drop draw 900nl from p.A1", "error 12"},
		// What is done ahead of the one that is wrong is taken back.
		{`fill p.B2 with "c" 1nl fill p.A1 with "d" 3nl drop tip draw 1nl from p.A1 heat 9K wait 9s draw 99nl from p.A1`, "error 10"},
	} {
		talkAtTable(t,
			turn{`do fill p.A1 with "a" 50nl fill p.B2 with "b" 50nl fill q.A1 with "b" 29nl`, "done 3"},
			turn{"do tip draw 2nl from p.A1 heat 1K wait 2ms", "done 4"},
			turn{"do " + c.source, c.answer},
			turn{"state", "1 1000 2"}, turn{"tip", "a 2"},
			turn{"well p.A1", "a 48"}, turn{"well p.B2", "b 50"}, turn{"well p.A2", "empty"}, turn{"well q.A1", "b 29"},
			turn{"do put 2nl into p.A1 drop tip", "done 3"}, turn{"state", "2 1000 2"}, turn{"well p.A1", "a 50"})
	}
}

// P23.1, do: what a tip has touched lasts from line to line, and names do not.
func TestDoAgain(t *testing.T) {
	talkAtTable(t,
		turn{`do fill p.A1 with "a" 9nl fill p.A2 with "b" 9nl tip draw 1nl from p.A1 put 1nl into p.A1`, "done 5"},
		turn{"tip", "empty"}, turn{"do draw 1nl from p.A2", "error 11"}, turn{"do draw 1nl from p.A1", "done 1"}, turn{"tip", "a 1"},
		turn{"do let n = 1ms def f() { wait n }", "error 3"}, turn{"do let n = 1ms wait n", "done 1"},
		turn{"do wait n", "error 3"}, turn{"do def f() { wait 1ms }", "done 0"}, turn{"do do f()", "error 3"},
		turn{"do let n = 1ms", "done 0"}, turn{"state", "1 0 1"})
}

// P23.1, do: a fuel of 1000, each time.
func TestFuel(t *testing.T) {
	talk(t,
		turn{"do for i from 1 to 499 { wait 1ms }", "done 499"}, // 999
		turn{"do for i from 1 to 499 { wait 1ms } wait 1ms", "done 500"},
		turn{"state", "0 0 999"},
		turn{"do for i from 1 to 499 { wait 1ms } wait 1ms wait 1ms", "error 16"},
		turn{"do wait 1ms for i from 1 to 500 { wait 1ms }", "error 16"},
		turn{"do for i from 1 to 999 { }", "done 0"},
		turn{"do for i from 1 to 1000 { }", "error 16"},
		turn{"state", "0 0 999"})
}

// P23.1, well: parcels in their order, or that there are none, or that there is no such well.
func TestWell(t *testing.T) {
	turns := []turn{{`do fill p.A1 with "b" 5nl fill p.A1 with "a1" 60nl fill p.A1 with "b" 1nl fill p.B3 with "long0123456789ab" 200nl`, "done 4"}}
	for _, c := range []turn{
		{"p.A1", "b 5, a1 60, b 1"}, {"p.B3", "long0123456789ab 200"}, {"p.A2", "empty"}, {"p.B1", "empty"}, {"q.A1", "empty"},
		{"p.a1", "b 5, a1 60, b 1"}, {"p.b3", "long0123456789ab 200"},
		{"r.A1", "empty"}, {"r.B2", "empty"}, {"t.A1", "empty"},
		{"p.C1", "none"}, {"p.A4", "none"}, {"p.P24", "none"}, {"q.A2", "none"}, {"q.B1", "none"}, {"r.A3", "none"}, {"t.A2", "none"},
		{"p.A0", "none"}, {"p.A01", "none"}, {"p.A25", "none"}, {"p.Q1", "none"}, {"p.A", "none"}, {"p.1", "none"}, {"p.1A", "none"},
		{"p.A-1", "none"}, {"p.A+1", "none"}, {"p.A99999999999999999999", "none"}, {"p.\u00c41", "none"},
		{"z.A1", "none"}, {"P.A1", "none"}, {"w.A1", "none"}, {"1.A1", "none"}, {"pp.A1", "none"}, {".A1", "none"}, {".", "none"}, {"", "none"},
		{"p", "none"}, {"p.", "none"}, {"A1", "none"}, {"pA1", "none"}, {"p.A1.", "none"}, {"p..A1", "none"}, {"p.A1.A1", "none"},
		{"p. A1", "none"}, {"p .A1", "none"}, {" p.A1", "none"}, {"p.A1 ", "none"}, {"p.A1\t", "none"}, {"p(1, 1)", "none"}, {"\xff.A1", "none"},
	} {
		turns = append(turns, turn{"well " + c.line, c.answer})
	}
	talkAtTable(t, append(turns,
		turn{"do tip draw 62nl / 4 from p.A1", "done 2"}, turn{"well p.A1", "a1 50, b 1"}, turn{"well p.b3", "long0123456789ab 200"},
		turn{"do put 15nl into p.A2", "done 1"}, turn{"well p.A2", "b 5, a1 10"}, turn{"well p.A1", "a1 50, b 1"})...)
	talkAtTable(t,
		turn{`do fill q.A1 with "a" 20nl tip draw 20nl from q.A1`, "done 3"}, turn{"well q.A1", "empty"}, turn{"tip", "a 20"})
}

// P23.1, tip: whether there is one, and what it holds.
func TestTip(t *testing.T) {
	talkAtTable(t,
		turn{"tip", "no tip"}, turn{`do fill p.A1 with "b" 5nl fill p.A1 with "a" 9nl`, "done 2"}, turn{"tip", "no tip"},
		turn{"do tip", "done 1"}, turn{"tip", "empty"},
		turn{"do draw 7nl from p.A1", "done 1"}, turn{"tip", "b 5, a 2"}, turn{"well p.A1", "a 7"},
		turn{"do put 5nl into q.A1", "done 1"}, turn{"tip", "a 2"},
		turn{"do put 2nl into q.A1", "done 1"}, turn{"tip", "empty"}, turn{"well q.A1", "b 5, a 2"},
		turn{"do drop", "done 1"}, turn{"tip", "no tip"},
		turn{"do tip draw 1nl from p.A1 drop", "done 3"}, turn{"tip", "no tip"}, turn{"state", "2 0 0"})
}

// P23.1, state: how many tips were taken, the heat, the time.
func TestState(t *testing.T) {
	talkAtTable(t,
		turn{"state", "0 0 0"}, turn{"do tip", "done 1"}, turn{"state", "1 0 0"}, turn{"do drop tip drop", "done 3"}, turn{"state", "2 0 0"},
		turn{"do heat 1000000K", "done 1"}, turn{"state", "2 1000000000 0"}, turn{"do heat 0K", "done 1"}, turn{"state", "2 0 0"},
		turn{"do wait 1000000s", "done 1"}, turn{"state", "2 0 1000000000"}, turn{"do wait 1ms", "error 8"}, turn{"do hold 0s", "done 1"},
		turn{"state", "2 0 1000000000"})
}
