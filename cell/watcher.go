package cell

import "workcell/api"

// watcher of commands that have their form, one behind the other.
type watcher struct {
	floor
	actions []api.Action
	at      api.Point // where the machine is
	plug    int       // where its plunger is
}

// watch a command.
func (w *watcher) watch(c api.Command) api.Errno {
	switch c.Kind {
	case api.Home:
		w.at = api.Point{}
	case api.Go:
		w.at = api.Point{X: c.X, Y: c.Y, Z: c.Z}
	case api.Grab:
		return w.change(api.Rack, api.Tip)
	case api.Eject:
		return w.change(api.Trash, api.Drop)
	case api.Plug:
		return w.press(c.Value)
	case api.Cook:
		w.tell(api.Action{Kind: api.Warm, Value: c.Value})
	case api.Rest:
		w.tell(api.Action{Kind: api.Wait, Time: c.Value})
	}
	return api.OK
}

// change the tip at a ware of that kind: what action that is.
func (w *watcher) change(kind, action int) api.Errno {
	if _, isThere := w.places[stand{kind, w.at}]; !isThere {
		return api.ErrNone
	}
	w.plug = 0
	w.tell(api.Action{Kind: action})
	return api.OK
}

// press the plunger to a value.
func (w *watcher) press(value int) api.Errno {
	p, isThere := w.places[stand{api.Plate, w.at}]
	if !isThere {
		return api.ErrNone
	}
	switch more := value - w.plug; {
	case more > 0:
		w.tell(api.Action{Kind: api.Draw, Place: p, Volume: more})
	case more < 0:
		w.tell(api.Action{Kind: api.Put, Place: p, Volume: -more})
	}
	w.plug = value
	return api.OK
}

// tell an action.
func (w *watcher) tell(a api.Action) { w.actions = append(w.actions, a) }
