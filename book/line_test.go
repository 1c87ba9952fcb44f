package book_test

import (
	"math"
	"strconv"
	"strings"
	"testing"

	"workcell/api"
	"workcell/book"
)

// The chapter's example.
func TestExample(t *testing.T) {
	tells(t, draw(pA1, 500), "draw 1 A1 500")
}

// P21.1: all kinds, and the edges of what they have.
func TestLine(t *testing.T) {
	most := strings.Repeat("z", api.MaxLabel)
	for line, a := range map[string]api.Action{
		"fill 1 A1 a 0":             fill(pA1, "a", 0),
		"fill 5 A1 water 90000":     fill(qA1, "water", 90000),
		"fill 1 B3 a1 1000000000":   fill(pB3, "a1", full),
		"fill 3 A1 a1 5":            fill(place(3, 0, 0), "a1", 5),
		"fill 12 P24 fill 10":       fill(last, "fill", 10),
		"fill 9 J10 " + most + " 1": fill(place(9, 9, 9), most, 1),
		"tip":                       tip,
		"drop":                      drop,
		"draw 1 A1 0":               draw(pA1, 0),
		"draw 12 P24 1000000000":    draw(last, full),
		"draw 10 B3 7":              draw(place(10, 1, 2), 7),
		"put 1 A1 0":                put(pA1, 0),
		"put 12 P24 1000000000":     put(last, full),
		"put 11 A24 100":            put(place(11, 0, 23), 100),
		"put 2 P1 999999999":        put(place(2, 15, 0), full-1),
		"heat 0":                    warm(0),
		"heat 310150":               warm(310150),
		"heat 1000000000":           warm(full),
		"hold 0":                    hold(0),
		"hold 60000":                hold(60000),
		"hold 1000000000":           hold(full),
		"shake 0 0":                 shake(0, 0),
		"shake 300 5000":            shake(300, 5000),
		"shake 0 7":                 shake(0, 7),
		"shake 7 0":                 shake(7, 0),
		"shake 1000000000 1":        shake(full, 1),
		"shake 1 1000000000":        shake(1, full),
		"wait 0":                    wait(0),
		"wait 1":                    wait(1),
		"wait 1000000000":           wait(full),
	} {
		tells(t, a, line)
	}
	for slot := 1; slot <= api.Slots; slot++ {
		tells(t, put(place(slot, 0, 0), 3), "put "+strconv.Itoa(slot)+" A1 3")
	}
	for i := range api.MaxRows * api.MaxColumns {
		row, column := i%api.MaxRows, i/api.MaxRows
		tells(t, draw(place(1, row, column), 3), "draw 1 "+"ABCDEFGHIJKLMNOP"[row:row+1]+strconv.Itoa(column+1)+" 3")
	}
}

// P21.1: kinds that are none of the nine, ahead of all.
func TestLineKind(t *testing.T) {
	is := map[int]bool{}
	for _, kind := range kinds() {
		is[kind] = true
	}
	for _, kind := range []int{math.MinInt, -256, -1, 1000, 256 + api.Tip, 1<<32 + api.Tip, math.MaxInt} {
		refuses(t, api.Action{Kind: kind}, api.ErrKind)
	}
	for kind := range 30 {
		if is[kind] {
			tells(t, plainOf(kind), lineOf(plainOf(kind)))
			continue
		}
		refuses(t, api.Action{Kind: kind}, api.ErrKind)
		refuses(t, api.Action{Kind: kind, Place: place(-1, -1, -1), Label: "?", Volume: -1, Value: -1, Time: -1}, api.ErrKind)
	}
}

// fields: the numbers of an action.
func fields(a *api.Action) map[string]*int {
	return map[string]*int{
		"slot": &a.Place.Slot, "row": &a.Place.Spot.Row, "column": &a.Place.Spot.Column,
		"volume": &a.Volume, "value": &a.Value, "time": &a.Time,
	}
}

// used: the numbers for which a kind has a use, from what to what.
func used(kind int) map[string][2]int {
	use := map[string][2]int{}
	switch kind {
	case api.Fill, api.Draw, api.Put:
		use["slot"], use["row"], use["column"], use["volume"] = [2]int{1, 12}, [2]int{0, 15}, [2]int{0, 23}, [2]int{0, full}
	case api.Warm:
		use["value"] = [2]int{0, full}
	case api.Hold, api.Wait:
		use["time"] = [2]int{0, full}
	case api.Shake:
		use["value"], use["time"] = [2]int{0, full}, [2]int{0, full}
	}
	return use
}

// P21.1: of each kind each number that it has, out of its range; and each that it has no use for, and a label, other than 0.
func TestLineNumbers(t *testing.T) {
	for _, kind := range kinds() {
		for name := range fields(&api.Action{}) {
			with := func(n int) api.Action {
				a := plainOf(kind)
				*fields(&a)[name] = n
				return a
			}
			edges, isUsed := used(kind)[name]
			if !isUsed {
				tells(t, with(0), lineOf(plainOf(kind)))
				for _, n := range []int{1, -1, 5, full + 1, math.MinInt, math.MaxInt, 1 << 32} {
					refuses(t, with(n), api.ErrForm)
				}
				continue
			}
			low, high := edges[0], edges[1]
			tells(t, with(low), lineOf(with(low)))
			tells(t, with(high), lineOf(with(high)))
			for _, n := range []int{low - 1, high + 1, -100, -full, math.MinInt, math.MaxInt, 1<<32 + low, 1 << 62} {
				refuses(t, with(n), api.ErrRange)
			}
		}
		if kind != api.Fill {
			for _, label := range []string{"a", "?", "\x00", " "} {
				a := plainOf(kind)
				a.Label = label
				refuses(t, a, api.ErrForm)
			}
		}
	}
}

// P21.1: labels that are none.
func TestLineLabel(t *testing.T) {
	for _, label := range unlabels() {
		refuses(t, fill(pA1, label, 5), api.ErrName)
	}
}

// unlabels: texts that are no labels.
func unlabels() []string {
	return []string{"", "A", "1", "1a", "aB", "a b", " a", "a ", "a-b", "a_", "é", "a\xff", "a\x00", "a\n", "µ", "aа", strings.Repeat("z", api.MaxLabel+1), strings.Repeat("z", 300)}
}

// P21.1: of several faults the one that is named first.
func TestLineFaults(t *testing.T) {
	for _, c := range []struct {
		a    api.Action
		want api.Errno
	}{
		{api.Action{Kind: api.Fill, Place: pA1, Label: "A", Volume: -1}, api.ErrRange},
		{api.Action{Kind: api.Fill, Place: place(0, 0, 0), Label: "A", Volume: 1}, api.ErrRange},
		{api.Action{Kind: api.Fill, Place: place(1, 16, 0), Label: "A", Volume: 1, Time: 5}, api.ErrRange},
		{api.Action{Kind: api.Fill, Place: pA1, Label: "A", Volume: 1, Time: 5}, api.ErrName},
		{api.Action{Kind: api.Fill, Place: pA1, Label: "", Volume: 1, Value: -5}, api.ErrName},
		{api.Action{Kind: api.Fill, Place: pA1, Label: "a", Volume: 1, Value: -5}, api.ErrForm},
		{api.Action{Kind: api.Fill}, api.ErrRange},
		{api.Action{Kind: api.Draw}, api.ErrRange},
		{api.Action{Kind: api.Put, Label: "a"}, api.ErrRange},
		{api.Action{Kind: api.Draw, Place: pA1, Label: "A", Volume: 1}, api.ErrForm},
		{api.Action{Kind: api.Put, Place: pA1, Volume: full + 1, Time: 5}, api.ErrRange},
		{api.Action{Kind: api.Shake, Value: 5, Time: -1, Volume: 1}, api.ErrRange},
		{api.Action{Kind: api.Shake, Value: -5, Time: 1, Volume: -1}, api.ErrRange},
		{api.Action{Kind: api.Warm, Value: 5, Time: -1}, api.ErrForm},
		{api.Action{Kind: api.Hold, Value: -5, Time: -1}, api.ErrRange},
		{api.Action{Kind: api.Wait, Value: -5, Time: 1}, api.ErrForm},
		{api.Action{Kind: api.Tip, Place: place(99, -1, -1), Label: "?", Volume: -1, Value: -1, Time: -1}, api.ErrForm},
		{api.Action{Kind: api.Drop, Place: pA1}, api.ErrForm},
	} {
		refuses(t, c.a, c.want)
	}
}

// unlines: texts that are no action's line.
func unlines() []string {
	l := []string{
		// Words: none, others, too few, too many, in another order, of another case.
		"", " ", "  ", "a", "move", "move 1 A1 5", "warm 5", "Tip", "TIP", "tips", "ti", "tip 1", "drop 1", "tip tip", "tip drop", "fill", "draw", "put", "heat", "hold", "shake", "wait",
		"fill 1", "fill 1 A1", "fill 1 A1 a", "fill 1 A1 5", "fill 1 A1 5 a", "fill A1 1 a 5", "fill 1 a A1 5", "fill 1 A1 a 5 6", "fill 1 A1 a 5 a", "fill 1 A1 a 5nl", "fill p A1 a 5", "fill 1 A1 \"a\" 5",
		"draw 1", "draw 1 A1", "draw 1 5", "draw A1 5", "draw A1 1 5", "draw 1 A1 a 5", "draw 1 A1 5 6", "draw 5 1 A1", "draw 5 from 1 A1", "put 1 A1", "put 1 A1 a 5", "put 1 A1 5 0", "Put 1 A1 5",
		"heat a", "heat 5 6", "heat 5 0", "hold 5 6", "shake 5", "shake 5 6 7", "wait 5 6", "wait 1 A1 5", "5 wait", "5", "5 5", "CELL",
		// Blanks.
		" tip", "tip ", "  tip", "tip  ", "tip\n", "\ntip", "tip\r\n", "tip\t", "\ttip", "tip\x00", "\x00tip", "tip\xff", " wait 5", "wait 5 ", "wait  5", "wait\t5", "wait\n5", "wait 5\n", "wait5", "wait\u00a05",
		"draw  1 A1 5", "draw 1  A1 5", "draw 1 A1  5", "draw 1 A1 5 ", "draw 1 A1 ", "draw 1  5", "draw  A1 5", "fill 1 A1  5", "fill 1 A1  a 5", "fill 1 A1 a  5", "shake 5  6", "shake  5 6", "shake  5", "shake 5 ",
		// Slots.
		"draw 0 A1 5", "draw 13 A1 5", "draw 01 A1 5", "draw -1 A1 5", "draw +1 A1 5", "draw a A1 5", "draw 1.0 A1 5", "draw 0x1 A1 5", "draw 4294967297 A1 5", "draw 18446744073709551617 A1 5", "fill 13 A1 a 5", "put 0 A1 5",
		// Spots.
		"draw 1 a1 5", "draw 1 p24 5", "draw 1 A0 5", "draw 1 A25 5", "draw 1 Q1 5", "draw 1 A 5", "draw 1 1 5", "draw 1 A01 5", "draw 1 A1A 5", "draw 1 AA1 5", "draw 1 1A 5", "draw 1 A+1 5", "draw 1 A-1 5", "draw 1 @1 5", "draw 1 \xc11 5", "draw 1 A100 5",
		"fill 1 a1 a 5", "fill 1 A25 a 5", "put 1 b2 5", "put 1 R1 5", "put 1 A00 5",
	}
	for _, n := range []string{"", "-1", "-0", "+5", "00", "05", "000", "1000000001", "9999999999", "10000000000", "00000000005", "4294967296", "18446744073709551616", strings.Repeat("9", 400), "5.0", "5e0", "0x5", "1_0", "5nl", "a", "5a", "a5", "-", "\xd9\xa1", "５"} {
		l = append(l, "fill 1 A1 a "+n, "draw 1 A1 "+n, "put 1 A1 "+n, "heat "+n, "hold "+n, "wait "+n, "shake "+n+" 5", "shake 5 "+n)
	}
	for _, label := range unlabels() {
		l = append(l, "fill 1 A1 "+label+" 5")
	}
	return l
}

// P21.1: what is no action's line.
func TestUnlines(t *testing.T) {
	for _, line := range unlines() {
		if a, e := book.Action(line); a != (api.Action{}) || e != api.ErrForm {
			t.Errorf("Action %q: %v, %v", line, a, e)
		}
	}
}
