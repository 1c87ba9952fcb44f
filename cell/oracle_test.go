package cell_test

import (
	"workcell/api"
	"workcell/code"
	"workcell/deck"
	"workcell/fluid"
	"workcell/mean"
	"workcell/ware"
)

// placesOf all wares of a kind, slot by slot.
func placesOf(d []api.Seat, kind int) []api.Place {
	var l []api.Place
	for slot := 1; slot <= api.Slots; slot++ {
		for _, s := range d {
			if s.Slot != slot || s.Ware.Kind != kind {
				continue
			}
			spots, _ := ware.All(s.Ware)
			for _, spot := range spots {
				l = append(l, api.Place{Slot: slot, Spot: spot})
			}
		}
	}
	return l
}

// pointOf a place, if there is one.
func pointOf(d []api.Seat, p api.Place) api.Point {
	where, _ := deck.At(d, p)
	return where
}

// slowCompile: of each action all ahead of it are run anew.
func slowCompile(d []api.Seat, l []api.Action) ([]api.Command, int, api.Errno) {
	if e := deck.Check(d); e != api.OK {
		return nil, 0, e
	}
	if _, n, e := mean.Run(d, l); e != api.OK {
		return nil, n, e
	}
	all := []api.Command{home(), to(at(0, 0, top))}
	for i, a := range l {
		s, _, _ := mean.Run(d, l[:i+1])
		held, _ := fluid.Total(s.Held)
		switch a.Kind {
		case api.Tip:
			tips, _ := deck.Tips(d)
			all = append(all, work(pointOf(d, tips[s.Used-1]), grab())...)
		case api.Drop:
			trash := placesOf(d, api.Trash)
			if len(trash) == 0 {
				return nil, i, api.ErrNone
			}
			all = append(all, work(pointOf(d, trash[0]), eject())...)
		case api.Draw, api.Put:
			all = append(all, work(pointOf(d, a.Place), plug(held))...)
		case api.Warm:
			all = append(all, cook(a.Value))
		case api.Shake:
			all = append(all, turn(a.Value))
		}
		if isTimed := a.Kind == api.Hold || a.Kind == api.Wait || a.Kind == api.Shake; isTimed && a.Time != 0 {
			all = append(all, rest(a.Time))
		}
		if a.Kind == api.Shake {
			all = append(all, turn(0))
		}
	}
	return all, 0, api.OK
}

// whereIs the machine ahead of a command: looked for backwards.
func whereIs(ahead []api.Command) api.Point {
	for i := len(ahead) - 1; i >= 0; i-- {
		switch c := ahead[i]; c.Kind {
		case api.Home:
			return api.Point{}
		case api.Go:
			return at(c.X, c.Y, c.Z)
		}
	}
	return api.Point{}
}

// plugAhead of a command: looked for backwards.
func plugAhead(ahead []api.Command) int {
	for i := len(ahead) - 1; i >= 0; i-- {
		switch c := ahead[i]; c.Kind {
		case api.Plug:
			return c.Value
		case api.Grab, api.Eject:
			return 0
		}
	}
	return 0
}

// standsAt: the first place of a ware of a kind that has that point.
func standsAt(d []api.Seat, kind int, p api.Point) (api.Place, bool) {
	for _, place := range placesOf(d, kind) {
		if pointOf(d, place) == p {
			return place, true
		}
	}
	return api.Place{}, false
}

// kindFor a command: at what kind of ware it works; 0 at none.
func kindFor(kind int) int {
	switch kind {
	case api.Grab:
		return api.Rack
	case api.Eject:
		return api.Trash
	case api.Plug:
		return api.Plate
	}
	return 0
}

// slowWatch: for each command all ahead of it are looked at anew.
func slowWatch(d []api.Seat, l []api.Command) ([]api.Action, int, api.Errno) {
	if e := deck.Check(d); e != api.OK {
		return nil, 0, e
	}
	for i, c := range l {
		if code.Check(c) != api.OK {
			return nil, i, api.ErrForm
		}
	}
	var all []api.Action
	for i, c := range l {
		where, isThere := standsAt(d, kindFor(c.Kind), whereIs(l[:i]))
		if kindFor(c.Kind) != 0 && !isThere {
			return nil, i, api.ErrNone
		}
		switch last := plugAhead(l[:i]); {
		case c.Kind == api.Grab:
			all = append(all, tip)
		case c.Kind == api.Eject:
			all = append(all, drop)
		case c.Kind == api.Plug && c.Value > last:
			all = append(all, draw(where, c.Value-last))
		case c.Kind == api.Plug && c.Value < last:
			all = append(all, put(where, last-c.Value))
		case c.Kind == api.Cook:
			all = append(all, warm(c.Value))
		case c.Kind == api.Rest:
			all = append(all, timed(api.Wait, c.Value))
		}
	}
	return all, 0, api.OK
}
