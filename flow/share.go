package flow

import (
	"iter"

	"workcell/api"
)

// share: how much of what one Draw drew a Put puts; both by their numbers, as places alone don't tell when it was.
type share struct{ draw, put, volume int }

// shares: what Puts put, in order; what a Put takes of several Draws comes apart.
func shares(l []api.Action) iter.Seq[share] {
	return func(yield func(share) bool) {
		var t tip
		for i, a := range l {
			for _, s := range t.follow(i, a) {
				if !yield(s) {
					return
				}
			}
		}
	}
}

// tip: whether there is one, and what is left in it of which Draws, the first one first.
type tip struct {
	on   bool
	held []share
}

// follow the action of that number: what it puts.
func (t *tip) follow(i int, a api.Action) []share {
	switch a.Kind {
	case api.Tip:
		*t = tip{on: true}
		return nil
	case api.Drop:
		*t = tip{}
		return nil
	}
	if !t.on || a.Volume < 1 || a.Volume > api.MaxVolume {
		return nil
	}
	switch a.Kind {
	case api.Draw:
		t.held = append(t.held, share{draw: i, volume: a.Volume})
	case api.Put:
		return t.put(i, a.Volume)
	}
	return nil
}

// put the first of what is held, at most all of it.
func (t *tip) put(i, volume int) []share {
	var given []share
	for volume > 0 && len(t.held) > 0 {
		first := &t.held[0]
		part := min(volume, first.volume)
		given = append(given, share{draw: first.draw, put: i, volume: part})
		volume -= part
		first.volume -= part
		if first.volume == 0 {
			t.held = t.held[1:]
		}
	}
	return given
}
