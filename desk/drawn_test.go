package desk_test

import (
	"strings"
	"testing"

	"workcell/api"
	"workcell/desk"
)

// drawnSource: a few statements, most of which may be.
func (d *die) drawnSource() string {
	right := []string{
		`fill p.A1 with "a" 60nl`, `fill p.A1 with "b" 3nl`, `fill p.B3 with "b" 9nl`, `fill q.A1 with "a" 9nl`, "tip draw 1nl from p.A1", "draw 1nl from p.B3", "move 25nl from p.A1 into q.A1", "tip", "drop",
		"draw 5nl from p.A1", "draw 2nl from p.B3", "put 3nl into q.A1", "put 1nl into p.B3", "wait 1s", "heat 37C", "hold 1ms",
		"shake 100rpm for 1s", "for i from 1 to 2 { move 3nl * i from p.A1 into p(i, 1) }", "let n = 2 set n = n + 1",
		"if 1 < 2 { wait 2s } else { hold 1ms }", "def f(x vol) { move x from p.A1 into p.A2 } do f(4nl)", "for i from 1 to 499 { hold 1ms }",
	}
	wrong := []string{"draw 500nl from p.A1", "put 1nl into z.A1", "let 5", "wait 5ul", "put 1nl into p(3, 1)", "$", "wait 1s / 0", "wait 277h"}
	var l []string
	for range 1 + d.n(4) {
		s := pick(d, right...)
		if d.n(20) == 0 {
			s = pick(d, wrong...)
		}
		l = append(l, s)
	}
	return strings.Join(l, pick(d, " ", "  ", "\t"))
}

// drawnSeat: one of the table's, or another one, most of which may be.
func (d *die) drawnSeat() string {
	s := pick(d, table()...)
	if d.n(4) == 0 {
		s.Slot = 1 + d.n(12)
		s.Name = pick(d, "p", "q", "r", "z")
	}
	line := seatLine(s)
	if d.n(20) == 0 {
		return pick(d, line+" ", strings.Replace(line, "w", "W", 1), strings.Replace(line, "60000", "160000", 1), "seat x", "seat ", "seat")
	}
	return line
}

// drawnLine of any kind.
func (d *die) drawnLine() string {
	switch d.n(12) {
	case 0, 1, 2, 3, 4:
		return "do " + d.drawnSource()
	case 5, 6, 7:
		return pick(d, "", "well ", "well ", "well ", "well ", "well ") + pick(d, "p.A1", "p.B3", "q.A1", "p.b1", "p.A2", "q.A2", "z.A1", "r.A1", "p.A", "q", "t.A1")
	case 8:
		return "tip"
	case 9:
		return "state"
	case 10:
		return pick(d, "", "tip ", "state x", "do", "well", "do ", "well ", "drop", "tip\r")
	}
	if d.n(4) > 0 { // else the state would seldom last
		return pick(d, "tip", "state", "well p.A1", "well q.A1")
	}
	return d.drawnSeat()
}

// drawnText: some seats, most of the time, and then lines of any kind.
func (d *die) drawnText() string {
	var l []string
	if d.n(10) > 0 {
		l = seatLines(table()[:4-d.n(5)/4])
	}
	for range d.n(30) {
		l = append(l, d.drawnLine())
	}
	return strings.Join(l, "\n") + pick(d, "", "\n", "\n", "\n\n")
}

// P23.1: drawn texts, held against a slow desk.
func TestDrawn(t *testing.T) {
	d := die(5)
	seen := map[string]int{}
	for range 1500 {
		text := d.drawnText()
		want := slowSession(text)
		if got := desk.Session(text); got != want {
			t.Fatalf("Session %q: %q; wanted %q", text, got, want)
		}
		for _, answer := range strings.Split(want, "\n") {
			word, rest, _ := strings.Cut(answer, " ")
			seen[word]++
			if word == "error" {
				seen[answer]++
			}
			if strings.Contains(rest, ", ") {
				seen["parcels"]++
			}
		}
	}
	for _, word := range []string{"ok", "done", "bad", "none", "empty", "no", "a", "b", "parcels", "error 1", "error 4", "error 5", "error 6", "error 9", "error 10", "error 11", "error 12", "error 16", "error 19"} {
		if seen[word] < 10 {
			t.Errorf("%q is answered %d times", word, seen[word])
		}
	}
}

// P23.1: as much as a text can ask for, so that its end comes: thousands of wells that are filled, and hundreds of
// thousands of actions.
func TestMuch(t *testing.T) {
	var text, want strings.Builder
	say := func(line, answer string) {
		text.WriteString(line + "\n")
		want.WriteString(answer + "\n")
	}
	for i := range api.Slots - 1 {
		say(seatLine(seat(i+1, string(rune('a'+i)), api.Plate, api.MaxRows, api.MaxColumns, 2000)), "ok")
	}
	say(seatLine(seat(api.Slots, "r", api.Rack, api.MaxRows, api.MaxColumns, 1)), "ok")
	for i := range api.Slots - 1 {
		say("do for i from 1 to 16 { for j from 1 to 24 { fill "+string(rune('a'+i))+`(i, j) with "a" 2nl } }`, "done 384")
	}
	say(`do fill a.A1 with "a" 1ul`, "done 1")
	for range 100 {
		say("do for i from 1 to 499 { wait 1ms }", "done 499")
		say("do move 1000nl from a.A1 into b.A1", "done 2002")
		say("do move 1000nl from b.A1 into a.A1", "done 2002")
	}
	say("well a.A1", "a 1002")
	say("well k.P24", "a 2")
	say("state", "200 0 49900")
	answers(t, text.String(), want.String())
}

// FuzzSession: texts of any form.
func FuzzSession(f *testing.F) {
	d := die(6)
	for range 20 {
		f.Add(d.drawnText())
	}
	f.Fuzz(func(t *testing.T, text string) {
		// A slow desk has to take all of it.
		if len(text) > 3000 && len(text) <= api.MaxSource {
			return
		}
		if got, want := desk.Session(text), slowSession(text); got != want {
			t.Fatalf("Session %q: %q; wanted %q", text, got, want)
		}
	})
}
