package desk_test

import (
	"fmt"

	"workcell/api"
	"workcell/check"
	"workcell/deck"
	"workcell/elab"
	"workcell/mean"
	"workcell/tree"
	"workcell/ware"
)

// slowDesk: seats, and a state that is handed on whole with each action.
type slowDesk struct {
	seats []api.Seat
	state api.State
}

// slowSession: what is answered, by the chapter's words, sign by sign.
func slowSession(text string) string {
	if len(text) > 20000 {
		return "too long\n"
	}
	var d slowDesk
	out, line := "", ""
	for i := range len(text) {
		if text[i] != '\n' {
			line += text[i : i+1]
		}
		if text[i] == '\n' || i == len(text)-1 {
			out += d.answer(line) + "\n"
			line = ""
		}
	}
	return out
}

func (d *slowDesk) answer(line string) string {
	switch {
	case line == "tip" && d.state.Tip:
		return slowFluid(d.state.Held)
	case line == "tip":
		return "no tip"
	case line == "state":
		return fmt.Sprint(d.state.Used, d.state.Heat, d.state.Clock)
	case len(line) >= 3 && line[:3] == "do ":
		return d.do(line[3:])
	case len(line) >= 5 && line[:5] == "seat ":
		return d.seat(line[5:])
	case len(line) >= 5 && line[:5] == "well ":
		return d.well(line[5:])
	}
	return "bad"
}

func (d *slowDesk) seat(rest string) string {
	l, _, e := deck.Read(rest)
	if e != api.OK {
		return fmt.Sprint("error ", int(e))
	}
	l = append(append([]api.Seat{}, d.seats...), l...)
	if e := deck.Check(l); e != api.OK {
		return fmt.Sprint("error ", int(e))
	}
	*d = slowDesk{seats: l}
	return "ok"
}

func (d *slowDesk) do(source string) string {
	n, _, e := tree.Parse(source)
	if e == api.OK {
		_, e = check.Check(n, d.seats)
	}
	var l []api.Action
	if e == api.OK {
		l, _, e = elab.Run(n, d.seats, 1000)
	}
	s := d.state
	for i := 0; i < len(l) && e == api.OK; i++ {
		s, e = mean.Apply(d.seats, s, l[i])
	}
	if e != api.OK {
		return fmt.Sprint("error ", int(e))
	}
	d.state = s
	return fmt.Sprint("done ", len(l))
}

// well: all spots of all seats, each held against what is asked for.
func (d *slowDesk) well(name string) string {
	for _, s := range d.seats {
		spots, _ := ware.All(s.Ware)
		for _, spot := range spots {
			told, _ := ware.Name(spot)
			small := string(told[0]+'a'-'A') + told[1:]
			if name == s.Name+"."+told || name == s.Name+"."+small {
				return slowFluid(mean.Well(d.state, api.Place{Slot: s.Slot, Spot: spot}))
			}
		}
	}
	return "none"
}

func slowFluid(f []api.Parcel) string {
	out := ""
	for i, p := range f {
		if i > 0 {
			out += ", "
		}
		out += fmt.Sprint(p.Label, " ", p.Volume)
	}
	if out == "" {
		return "empty"
	}
	return out
}
