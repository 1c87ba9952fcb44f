package cell

import "workcell/api"

// compiler of actions that may be, one behind the other.
type compiler struct {
	floor
	commands []api.Command
	used     int // tips that were taken
	held     int // how much the tip holds
}

// newCompiler: the machine is homed, and stands high.
func newCompiler(f floor) *compiler {
	c := &compiler{floor: f}
	c.tell(api.Command{Kind: api.Home}, goTo(api.Point{Z: high}))
	return c
}

// compile an action.
func (c *compiler) compile(a api.Action) api.Errno {
	switch a.Kind {
	case api.Fill: // somebody does it, not the machine
	case api.Tip:
		c.grab()
	case api.Drop:
		return c.eject()
	case api.Draw:
		c.press(a.Place, a.Volume)
	case api.Put:
		c.press(a.Place, -a.Volume)
	case api.Warm:
		c.tell(api.Command{Kind: api.Cook, Value: a.Value})
	case api.Hold, api.Wait:
		c.rest(a.Time)
	case api.Shake:
		c.tell(api.Command{Kind: api.Turn, Value: a.Value})
		c.rest(a.Time)
		c.tell(api.Command{Kind: api.Turn})
	}
	return api.OK
}

// grab the next tip. There is one, as the actions may be.
func (c *compiler) grab() {
	c.work(c.tips[c.used], api.Command{Kind: api.Grab})
	c.used++
}

// eject the tip, and what it holds.
func (c *compiler) eject() api.Errno {
	if len(c.bins) == 0 {
		return api.ErrNone
	}
	c.work(c.bins[0], api.Command{Kind: api.Eject})
	c.held = 0
	return api.OK
}

// press the plunger at a well, so that the tip holds so much more.
func (c *compiler) press(p api.Place, more int) {
	c.held += more
	c.work(p, api.Command{Kind: api.Plug, Value: c.held})
}

// rest for a time, if there is any.
func (c *compiler) rest(time int) {
	if time > 0 {
		c.tell(api.Command{Kind: api.Rest, Value: time})
	}
}

// work at a place: down to it, and up again.
func (c *compiler) work(p api.Place, does api.Command) {
	at := c.points[p]
	above := api.Point{X: at.X, Y: at.Y, Z: high}
	c.tell(goTo(above), goTo(at), does, goTo(above))
}

// tell commands.
func (c *compiler) tell(commands ...api.Command) { c.commands = append(c.commands, commands...) }

// goTo a point: a command.
func goTo(p api.Point) api.Command { return api.Command{Kind: api.Go, X: p.X, Y: p.Y, Z: p.Z} }
