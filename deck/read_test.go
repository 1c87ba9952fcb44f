package deck_test

import (
	"slices"
	"strconv"
	"strings"
	"testing"

	"workcell/api"
	"workcell/deck"
)

// Lines of seats as they must be.
const (
	plateLine = "5 p w plate 2 3 1000 2000 9000 60000 30000 14000 10000 200"
	rackLine  = "8 r tips rack 2 2 500 600 700 50000 40000 50000 20000 20"
	trashLine = "12 bin bin trash 1 1 5 6 0 10 20 30 5 0"
)

// changed: the plate's line with another word.
func changed(i int, word string) string {
	words := strings.Split(plateLine, " ")
	words[i] = word
	return strings.Join(words, " ")
}

// manyLines: a line for each slot up to n, one that there is not among them, if n is above 12.
func manyLines(n int) []string {
	var lines []string
	for i := range n {
		lines = append(lines, strconv.Itoa(i+1)+" n"+strconv.Itoa(i)+strings.TrimPrefix(plateLine, "5 p"))
	}
	return lines
}

// P5.3: how decks are told.
func TestShow(t *testing.T) {
	for _, c := range []struct {
		d    []api.Seat
		want string
	}{
		{nil, ""},
		{[]api.Seat{seat(5, "p", plate())}, plateLine + "\n"},
		{[]api.Seat{seat(12, "bin", trash()), seat(8, "r", rack()), seat(5, "p", plate())}, trashLine + "\n" + rackLine + "\n" + plateLine + "\n"},
		{[]api.Seat{seat(1, "z123456789abcdef", widest())}, "1 z123456789abcdef great rack 16 23 0 500 6000 132500 90500 200000 200000 1000000000\n"},
	} {
		if text, e := deck.Show(c.d); text != c.want || e != api.OK {
			t.Errorf("Show(%+v): %q, %v, not %q", c.d, text, e, c.want)
		}
		if d, line, e := deck.Read(c.want); !slices.Equal(d, c.d) || line != 0 || e != api.OK {
			t.Errorf("Read(%q): %+v, %d, %v, not %+v", c.want, d, line, e, c.d)
		}
	}
}

// What comes of it: what is shown is read again.
func TestShownIsRead(t *testing.T) {
	for _, c := range judged() {
		if c.want != api.OK {
			continue
		}
		text, e := deck.Show(c.d)
		if e != api.OK || strings.Count(text, "\n") != len(c.d) {
			t.Errorf("Show(%+v): %q, %v", c.d, text, e)
		}
		if d, line, e := deck.Read(text); !slices.Equal(d, c.d) || line != 0 || e != api.OK {
			t.Errorf("Read(%q): %+v, %d, %v, not %+v", text, d, line, e, c.d)
		}
	}
}

// P5.3: a line feed at the end need not be; empty lines are passed over.
func TestReadLines(t *testing.T) {
	p, r := seat(5, "p", plate()), seat(8, "r", rack())
	for _, c := range []struct {
		text string
		want []api.Seat
	}{
		{"", nil},
		{"\n", nil},
		{"\n\n\n", nil},
		{strings.Repeat("\n", 100000), nil},
		{plateLine, []api.Seat{p}},
		{plateLine + "\n", []api.Seat{p}},
		{plateLine + "\n\n\n", []api.Seat{p}},
		{"\n" + plateLine, []api.Seat{p}},
		{plateLine + "\n" + rackLine, []api.Seat{p, r}},
		{rackLine + "\n" + plateLine + "\n", []api.Seat{r, p}},
		{"\n\n" + plateLine + "\n\n\n" + rackLine + "\n\n", []api.Seat{p, r}},
	} {
		if d, line, e := deck.Read(c.text); !slices.Equal(d, c.want) || line != 0 || e != api.OK {
			t.Errorf("Read(%.200q): %+v, %d, %v, not %+v", c.text, d, line, e, c.want)
		}
	}
	text := strings.Repeat("\n", 1000) + strings.Join(manyLines(12), strings.Repeat("\n", 1000)) + strings.Repeat("\n", 1000)
	if d, line, e := deck.Read(text); len(d) != 12 || line != 0 || e != api.OK {
		t.Errorf("Read of twelve lines far apart: %+v, %d, %v", d, line, e)
	}
}

// wrongLine: a line that is none, alone or behind that of the plate, and what is said of it.
type wrongLine struct {
	text string
	want api.Errno
}

// malformed lines.
func malformed() []wrongLine {
	texts := []string{
		" ", "  ", "\t", "\r", "x", "5", "5 ", " 5", "#", strings.Repeat(" ", 13), strings.Repeat(" ", 14), strings.Repeat("x ", 5000),
		" " + plateLine, plateLine + " ", plateLine + " 1", plateLine + "\r", "\ufeff" + plateLine,
		plateLine[:strings.LastIndex(plateLine, " ")], plateLine[:strings.LastIndex(plateLine, " ")+1],
		strings.TrimPrefix(plateLine, "5 "), strings.TrimPrefix(plateLine, "5"),
		strings.Replace(plateLine, " ", "  ", 1), strings.Replace(plateLine, " w", "  w", 1),
		strings.Replace(plateLine, " ", "\t", 1), strings.ReplaceAll(plateLine, " ", "\t"), strings.ReplaceAll(plateLine, " ", "\u00a0"),
		// How many words there are is ahead of what they tell.
		changed(0, "0") + " 1", changed(1, "P") + " 1", changed(0, "0") + " ", strings.TrimSuffix(changed(0, "0"), " 200"), "0", "0 P",
		// Two blanks are not one, though there are as many parts.
		changed(1, ""), changed(2, ""), changed(13, ""), "0" + strings.TrimPrefix(changed(4, ""), "5"),
	}
	for _, slot := range []string{
		"", "x", "-5", "+5", "-0", "05", "00", "012", "5.", "5.0", "5e0", "0x5", "1_2", "5x", "x5", "/", ":", "5:",
		"\u0665", "\xff", "5\xff", "5\x00", "12345678901", "00000000005", "9223372036854775807", "9223372036854775808",
		"99999999999999999999", "18446744073709551621", strings.Repeat("1", 1000),
	} {
		texts = append(texts, changed(0, slot))
	}
	for i := 4; i < 14; i++ {
		for _, n := range []string{"", "02", "-1", "+2", "2.0", "x", "2x", "12345678901", "\u0662", "\xff"} {
			texts = append(texts, changed(i, n))
		}
	}
	for _, kind := range []string{"bowl", "Plate", "1", "plates"} {
		texts = append(texts, changed(3, kind))
	}
	for _, name := range []string{"W", "1", "a_b", strings.Repeat("a", 17), "\xff"} {
		texts = append(texts, changed(2, name))
	}
	var list []wrongLine
	for _, text := range texts {
		list = append(list, wrongLine{text, api.ErrForm})
	}
	return list
}

// refused: lines that are told as they should be, but tell what may not be; with one thing wrong, then with several.
func refused() []wrongLine {
	both := func(i int, word string, j int, other string) string {
		words := strings.Split(changed(i, word), " ")
		words[j] = other
		return strings.Join(words, " ")
	}
	return []wrongLine{
		{changed(0, "0"), api.ErrRange},
		{changed(0, "13"), api.ErrRange},
		{changed(0, "9999999999"), api.ErrRange},
		{changed(0, "4294967301"), api.ErrRange},
		{changed(1, "P"), api.ErrName},
		{changed(1, "1"), api.ErrName},
		{changed(1, "a_b"), api.ErrName},
		{changed(1, "a\u00a0b"), api.ErrName},
		{changed(1, "p\r"), api.ErrName},
		{changed(1, strings.Repeat("p", 17)), api.ErrName},
		{changed(4, "0"), api.ErrCount},
		{changed(5, "25"), api.ErrCount},
		{changed(6, "200001"), api.ErrRange},
		{changed(8, "0"), api.ErrRange},
		{changed(13, "0"), api.ErrRange},
		{changed(6, "60000"), api.ErrSize},
		{changed(12, "14001"), api.ErrSize},
		{changed(9, "132501"), api.ErrSize},
		{changed(10, "90501"), api.ErrSize},
		{changed(9, "200000"), api.ErrSize},
		{both(0, "05", 1, "P"), api.ErrForm},
		{both(0, "0", 1, "P"), api.ErrRange},
		{both(0, "0", 3, "bowl"), api.ErrRange},
		{both(0, "0", 13, "x"), api.ErrRange},
		{both(0, "0", 4, "0"), api.ErrRange},
		{both(1, "P", 2, "W"), api.ErrName},
		{both(1, "P", 3, "bowl"), api.ErrName},
		{both(1, "P", 4, "0"), api.ErrName},
		{both(3, "bowl", 9, "132501"), api.ErrForm},
		{both(4, "0", 9, "132501"), api.ErrCount},
		{both(13, "0", 9, "132501"), api.ErrRange},
	}
}

// P5.3: the number of the first line that is wrong, and what is said of it; nothing else is told.
func TestReadRefuses(t *testing.T) {
	ahead := strings.Replace(plateLine, "5 p", "6 q", 1)
	for _, c := range slices.Concat(malformed(), refused()) {
		for _, place := range []struct {
			text string
			line int
		}{
			{c.text, 1},
			{c.text + "\n", 1},
			{"\n\n" + c.text, 3},
			{ahead + "\n" + c.text, 2},
			{ahead + "\n\n" + c.text + "\n\n" + rackLine + "\n", 3},
			{rackLine + "\n" + ahead + "\n\n\n" + c.text, 5},
			{c.text + "\n" + ahead + "\n" + ahead, 1},
			{c.text + "\nx\n", 1},
		} {
			if d, line, e := deck.Read(place.text); len(d) != 0 || line != place.line || e != c.want {
				t.Errorf("Read(%.300q): %+v, %d, %v, not %d, %v", place.text, d, line, e, place.line, c.want)
			}
		}
	}
}

// P5.3: ErrTwice, by those ahead, behind all else that is wrong with the line.
func TestReadTwice(t *testing.T) {
	for _, c := range []struct {
		text string
		line int
		want api.Errno
	}{
		{plateLine + "\n" + plateLine, 2, api.ErrTwice},
		{plateLine + "\n" + rackLine + "\n" + strings.Replace(trashLine, "12", "5", 1), 3, api.ErrTwice},
		{plateLine + "\n" + rackLine + "\n\n" + strings.Replace(trashLine, "bin", "p", 1), 4, api.ErrTwice},
		{plateLine + "\n" + rackLine + "\n" + strings.Replace(trashLine, "12 bin", "8 p", 1), 3, api.ErrTwice},
		{plateLine + "\n" + changed(9, "132501"), 2, api.ErrSize},
		{plateLine + "\n" + changed(3, "bowl"), 2, api.ErrForm},
		{plateLine + "\n" + changed(13, "0"), 2, api.ErrRange},
		{plateLine + "\nx\n" + plateLine, 2, api.ErrForm},
		{plateLine + "\n" + plateLine + "\nx", 2, api.ErrTwice},
		{"\n" + changed(9, "132501") + "\n" + plateLine, 2, api.ErrSize},
	} {
		if d, line, e := deck.Read(c.text); len(d) != 0 || line != c.line || e != c.want {
			t.Errorf("Read(%q): %+v, %d, %v, not %d, %v", c.text, d, line, e, c.line, c.want)
		}
	}
	// Two wares may have one name, and a ware may have its seat's.
	text := plateLine + "\n" + strings.Replace(rackLine, "tips", "w", 1) + "\n" + trashLine
	if d, line, e := deck.Read(text); len(d) != 3 || line != 0 || e != api.OK {
		t.Errorf("Read(%q): %+v, %d, %v", text, d, line, e)
	}
}

// P5.3: ErrCount: more lines than slots, whatever they tell.
func TestReadCount(t *testing.T) {
	if d, line, e := deck.Read(strings.Join(manyLines(12), "\n")); len(d) != 12 || line != 0 || e != api.OK {
		t.Errorf("twelve seats: %+v, %d, %v", d, line, e)
	}
	for _, text := range []string{
		strings.Join(manyLines(13), "\n"),
		strings.Join(manyLines(13), "\n\n") + "\n",
		"x\n" + strings.Join(manyLines(12), "\n"),
		strings.Join(manyLines(12), "\n") + "\nx",
		strings.Repeat("x\n", 13),
		strings.Repeat(" \n", 13),
		strings.Repeat(plateLine+"\n", 13),
		strings.Repeat(plateLine+"\n", 5000),
	} {
		if d, line, e := deck.Read(text); len(d) != 0 || line != 0 || e != api.ErrCount {
			t.Errorf("Read(%.200q): %+v, %d, %v", text, d, line, e)
		}
	}
	if d, line, e := deck.Read(strings.Repeat("x\n", 12)); len(d) != 0 || line != 1 || e != api.ErrForm {
		t.Errorf("twelve lines that are none: %+v, %d, %v", d, line, e)
	}
}

// P5.3: a text is read just if it is what is shown of what it tells, but for empty lines and the last line feed.
func FuzzRead(f *testing.F) {
	for _, text := range []string{"", "\n", plateLine, plateLine + "\n\n" + rackLine, trashLine + "\n" + changed(0, "13"), strings.Repeat("x\n", 13)} {
		f.Add(text)
	}
	f.Fuzz(func(t *testing.T, text string) {
		d, line, e := deck.Read(text)
		if e != api.OK {
			if len(d) != 0 || line < 0 || line > strings.Count(text, "\n")+1 || line == 0 && e != api.ErrCount {
				t.Errorf("%+v, %d, %v", d, line, e)
			}
			return
		}
		var want strings.Builder
		for _, l := range strings.Split(text, "\n") {
			if l != "" {
				want.WriteString(l + "\n")
			}
		}
		if again, e := deck.Show(d); again != want.String() || e != api.OK || line != 0 {
			t.Errorf("%q is shown as %q, %v (line %d)", text, again, e, line)
		}
	})
}
