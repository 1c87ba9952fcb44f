package desk

import (
	"slices"
	"strconv"
	"strings"

	"workcell/api"
	"workcell/check"
	"workcell/deck"
	"workcell/elab"
	"workcell/tree"
	"workcell/ware"
)

// fuel that a protocol has.
const fuel = 1000

// command: what a first word asks for, and whether it stands alone; else a blank and a rest must be behind it.
type command struct {
	do    func(d *desk, rest string) string
	alone bool
}

// desk: the seats and the state that lines come to.
type desk struct {
	commands map[string]command
	seats    []api.Seat
	state
}

// commandsOfWords: what each first word asks for.
func commandsOfWords() map[string]command {
	return map[string]command{
		"seat":  {do: (*desk).seat},
		"do":    {do: (*desk).do},
		"well":  {do: (*desk).well},
		"tip":   {do: (*desk).tip, alone: true},
		"state": {do: (*desk).tell, alone: true},
	}
}

// answer a line.
func (d *desk) answer(line string) string {
	word, rest, parted := strings.Cut(line, " ")
	c, known := d.commands[word]
	if !known || parted == c.alone {
		return "bad"
	}
	return c.do(d, rest)
}

func (d *desk) seat(line string) string {
	// A line without signs is a deck's, too: no seat comes by it.
	more, _, e := deck.Read(line)
	if e != api.OK {
		return refused(e)
	}
	seats := slices.Concat(d.seats, more)
	if e := deck.Check(seats); e != api.OK {
		return refused(e)
	}
	d.seats, d.state = seats, newState()
	return "ok"
}

func (d *desk) do(source string) string {
	actions, e := d.actions(source)
	if e != api.OK {
		return refused(e)
	}
	s, e := d.after(d.seats, actions)
	if e != api.OK {
		return refused(e)
	}
	d.state = s
	return "done " + strconv.Itoa(len(actions))
}

// actions of a protocol.
func (d *desk) actions(source string) ([]api.Action, api.Errno) {
	n, _, e := tree.Parse(source)
	if e != api.OK {
		return nil, e
	}
	if _, e := check.Check(n, d.seats); e != api.OK {
		return nil, e
	}
	actions, _, e := elab.Run(n, d.seats, fuel)
	return actions, e
}

func (d *desk) well(name string) string {
	p, e := d.place(name)
	if e != api.OK {
		return "none"
	}
	return shown(d.wells[p])
}

// place of a well that a seat's name and a spot's tell.
func (d *desk) place(name string) (api.Place, api.Errno) {
	// Without a dot there is no spot's name: an empty text is none.
	seat, spot, _ := strings.Cut(name, ".")
	s, e := deck.Find(d.seats, seat)
	if e != api.OK {
		return api.Place{}, e
	}
	at, e := ware.Spot(spot)
	if e != api.OK {
		return api.Place{}, e
	}
	_, e = ware.Middle(s.Ware, at) // asked whether the ware has it
	return api.Place{Slot: s.Slot, Spot: at}, e
}

func (d *desk) tip(string) string {
	if !d.Tip {
		return "no tip"
	}
	return shown(d.Held)
}

func (d *desk) tell(string) string {
	return strconv.Itoa(d.Used) + " " + strconv.Itoa(d.Heat) + " " + strconv.Itoa(d.Clock)
}

// shown: a fluid, parcel by parcel.
func shown(f []api.Parcel) string {
	if len(f) == 0 {
		return "empty"
	}
	var parcels []string
	for _, p := range f {
		parcels = append(parcels, p.Label+" "+strconv.Itoa(p.Volume))
	}
	return strings.Join(parcels, ", ")
}

// refused: the answer to a line of which nothing comes.
func refused(e api.Errno) string { return "error " + strconv.Itoa(int(e)) }
