package desk_test

import (
	"strings"
	"testing"

	"workcell/api"
	"workcell/desk"
)

// P23.1: the chapter's example.
func TestExample(t *testing.T) {
	answers(t, "do wait 1s\nstate\n", "done 1\n0 0 1000\n")
}

// P23.1: line feeds part lines, and one at the end begins no further one.
func TestLines(t *testing.T) {
	answers(t, "", "")
	answers(t, "\n", "bad\n")
	answers(t, "\n\n", "bad\nbad\n")
	answers(t, "tip", "no tip\n")
	answers(t, "tip\n", "no tip\n")
	answers(t, "tip\n\n", "no tip\nbad\n")
	answers(t, "\ntip", "bad\nno tip\n")
	answers(t, "tip\nstate", "no tip\n0 0 0\n")
	answers(t, "tip\r\nstate\rtip\n", "bad\nbad\n")
	answers(t, strings.Repeat("state\n", 300), strings.Repeat("0 0 0\n", 300))
}

// P23.1: the first word goes up to the first blank, and whether there is one counts.
func TestWords(t *testing.T) {
	for _, line := range []string{
		"", " ", "  ", "x", "bad", "ok", "help me", "seats 1", "se", "se at", "dos wait 1s", "d", "wells p.A1", "tips", "ti p",
		"states", "SEAT", "Do wait 1s", "DO wait 1s", "Tip", "State", "Well p.A1",
		"seat", "do", "well", "tip ", "tip  ", "tip x", "state ", "state x", "tip tip", "state state",
		" tip", " state", " do wait 1s", "  do wait 1s", "\ttip", "tip\t", "tip\t ", "state\t", "state\r", "tip\x00", "tip\u00a0", "\ufefftip",
		"do\twait 1s", "well\tp.A1", "do\r wait 1s", "dowait 1s", "do\u00a0wait 1s", "\xff", "\xff wait 1s", "move 1nl from p.A1 into p.A2",
		"1 p w plate 2 3 0 0 1000 60000 30000 14000 10000 200", "seat\t1 p w plate 2 3 0 0 1000 60000 30000 14000 10000 200",
	} {
		talk(t, turn{line, "bad"})
		talkAtTable(t,
			turn{`do fill p.A1 with "a" 5nl wait 1ms`, "done 2"}, turn{line, "bad"},
			turn{"state", "0 0 1"}, turn{"well p.A1", "a 5"}, turn{"tip", "no tip"})
	}
}

// P23.1: a blank behind a first word that asks for a rest is enough, and just one blank is passed over.
func TestRests(t *testing.T) {
	talkAtTable(t,
		turn{"do ", "done 0"}, turn{"do  ", "done 0"}, turn{"do   wait 1ms  ", "done 1"}, turn{"do \twait 1ms\r", "done 1"},
		turn{"state", "0 0 2"},
		turn{"well ", "none"}, turn{"well  p.A1", "none"}, turn{"well p.A1 ", "none"}, turn{"well p.A1\r", "none"},
		turn{"seat  " + strings.TrimPrefix(seatLine(seat(2, "z", api.Trash, 1, 1, 0)), "seat "), "error 1"},
		turn{seatLine(seat(2, "z", api.Trash, 1, 1, 0)) + " ", "error 1"},
		turn{"state", "0 0 2"})
}

// P23.1: a text of more than MaxSource bytes.
func TestTooLong(t *testing.T) {
	for _, c := range []struct{ begin, fill, want string }{
		{"state\n", "x", "0 0 0\nbad\n"},
		{"do wait 1ms\nstate\ndo #", " ", "done 1\n0 0 1\ndone 0\n"},
		{"state\n", "\n", "0 0 0\n" + strings.Repeat("bad\n", 19994)},
	} {
		text := c.begin + strings.Repeat(c.fill, api.MaxSource-len(c.begin))
		answers(t, text, c.want)
		answers(t, text+c.fill, "too long\n")
		answers(t, text+"\n", "too long\n")
		answers(t, text+text, "too long\n")
	}
	// It is bytes that count.
	answers(t, strings.Repeat("\u00b5", 10000), "bad\n")
	answers(t, strings.Repeat("\u00b5", 10000)+"x", "too long\n")
}

// P23.1: the desk begins without seats and without anything, each time.
func TestBeginning(t *testing.T) {
	for range 2 {
		talk(t,
			turn{"state", "0 0 0"}, turn{"tip", "no tip"}, turn{"well p.A1", "none"},
			turn{`do fill p.A1 with "a" 5nl`, "error 5"}, turn{"do tip", "error 19"}, turn{"do drop", "error 12"},
			turn{"do heat 37C hold 1ms shake 1rpm for 1ms", "done 3"}, turn{"state", "0 310150 2"})
		talkAtTable(t,
			turn{"state", "0 0 0"}, turn{"tip", "no tip"}, turn{"well p.A1", "empty"},
			turn{`do fill p.A1 with "a" 5nl tip draw 1nl from p.A1 heat 1K wait 1s`, "done 5"}, turn{"state", "1 1000 1000"},
			turn{"well p.A1", "a 4"}, turn{"tip", "a 1"})
	}
}

// P23.1: sessions at one time do not meet.
func TestApart(t *testing.T) {
	text := strings.Join(append(seatLines(table()), `do fill p.A1 with "a" 5nl tip draw 2nl from p.A1`, "well p.A1", "tip", "state"), "\n")
	want := "ok\nok\nok\nok\ndone 3\na 3\na 2\n1 0 0\n"
	told := make(chan string)
	for range 8 {
		go func() { told <- desk.Session(text) }()
	}
	for range 8 {
		if s := <-told; s != want {
			t.Errorf("%q; wanted %q", s, want)
		}
	}
}
