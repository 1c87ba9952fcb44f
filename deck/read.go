package deck

import (
	"cmp"
	"slices"
	"strconv"
	"strings"

	"workcell/api"
	"workcell/ware"
)

const (
	seatWords  = 14 // the slot, the name, and twelve of the ware
	mostDigits = 10 // of a number in a text
)

// line of a text, with its number from 1 on.
type line struct {
	number int
	text   string
}

// lineError: what is wrong, and the number of the line in which it is.
type lineError struct {
	api.Errno
	number int
}

// Read a deck.
func Read(text string) ([]api.Seat, int, api.Errno) {
	lines := tellingLines(text)
	if len(lines) > api.Slots {
		return nil, 0, api.ErrCount
	}
	d, err := readSeats(lines)
	if wrong, ok := err.(lineError); ok {
		return nil, wrong.number, wrong.Errno
	}
	return d, 0, api.OK
}

// tellingLines: the lines of a text that are not empty; as soon as there are too many for a deck, no more of them.
func tellingLines(text string) []line {
	var lines []line
	for number := 1; text != "" && len(lines) <= api.Slots; number++ {
		first, rest, _ := strings.Cut(text, "\n")
		if first != "" {
			lines = append(lines, line{number: number, text: first})
		}
		text = rest
	}
	return lines
}

// readSeats of lines; the error is a lineError.
func readSeats(lines []line) ([]api.Seat, error) {
	var d []api.Seat
	for _, l := range lines {
		s, e := readSeat(l.text)
		// cmp.Or: the first of them that is an error.
		if e = cmp.Or(e, fitting(d, s)); e != api.OK {
			return nil, lineError{Errno: e, number: l.number}
		}
		d = append(d, s)
	}
	return d, nil
}

// readSeat of a line, wherever others stand, and however great its ware is.
func readSeat(text string) (api.Seat, api.Errno) {
	words := strings.SplitN(text, " ", seatWords+1)
	if len(words) != seatWords || slices.Contains(words, "") {
		return api.Seat{}, api.ErrForm
	}
	slot, ok := readNumber(words[0])
	if !ok {
		return api.Seat{}, api.ErrForm
	}
	s := api.Seat{Slot: slot, Name: words[1]}
	if e := placing(s); e != api.OK {
		return api.Seat{}, e
	}
	w, e := ware.Read(strings.Join(words[2:], " "))
	if e != api.OK {
		return api.Seat{}, e
	}
	s.Ware = w
	return s, api.OK
}

// readNumber that a text tells: nothing but digits, no 0 ahead of another.
func readNumber(text string) (int, bool) {
	n, err := strconv.Atoi(text)
	// Shown again it is the text, unless that has a sign or a 0 too many.
	ok := err == nil && n >= 0 && len(text) <= mostDigits && strconv.Itoa(n) == text
	return n, ok
}
