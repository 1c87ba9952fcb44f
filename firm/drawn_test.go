package firm_test

import (
	"testing"

	"workcell/api"
	"workcell/firm"
)

// among: is each number, of triples, from the first of its triple to the third?
func among(triples ...[3]int) bool {
	for _, t := range triples {
		if t[1] < t[0] || t[1] > t[2] {
			return false
		}
	}
	return true
}

// slowRig: is it one, number by number?
func slowRig(r api.Rig) bool {
	m := r.Ramp
	return among(
		[3]int{-far, r.Low.X, 0}, [3]int{-far, r.Low.Y, 0}, [3]int{-far, r.Low.Z, 0},
		[3]int{0, r.High.X, far}, [3]int{0, r.High.Y, far}, [3]int{0, r.High.Z, far},
		[3]int{1, m.Clock, fast}, [3]int{1, m.First, m.Clock}, [3]int{m.First, m.Most, m.Clock}, [3]int{0, m.Rise, high},
		[3]int{1, r.PerStep, wide}, [3]int{1, r.Most, much},
	)
}

// slowIn: is a point within Low and High?
func slowIn(r api.Rig, p api.Point) bool {
	return among([3]int{r.Low.X, p.X, r.High.X}, [3]int{r.Low.Y, p.Y, r.High.Y}, [3]int{r.Low.Z, p.Z, r.High.Z})
}

// slowMay: may such a state of a rig be?
func slowMay(r api.Rig, f api.Firm) bool {
	if !f.Homed && (f.At.X != 0 || f.At.Y != 0 || f.At.Z != 0) {
		return false
	}
	return slowIn(r, f.At) && among([3]int{0, f.Plug, r.Most}, [3]int{0, f.Heat, much}, [3]int{0, f.Turns, much}, [3]int{0, f.Ticks, late})
}

// slowUp: how often must by be taken, so that it is n at least? n is above -by.
func slowUp(n, by int) int {
	up := n / by
	if up*by < n {
		up++
	}
	return up
}

// slowRun: ticks of a run, step by step.
func slowRun(m api.Ramp, steps int) int {
	ticks := 0
	for i := range steps {
		ticks += m.Clock / min(m.First+m.Rise*min(i, steps-1-i), m.Most)
	}
	return ticks
}

// slowNeed: ticks of a move, a full run at a time.
func slowNeed(r api.Rig, from, to api.Point) int {
	steps := slowUp(max(from.X-to.X, to.X-from.X, from.Y-to.Y, to.Y-from.Y, from.Z-to.Z, to.Z-from.Z), r.PerStep)
	ticks := slowRun(r.Ramp, steps%long)
	if steps >= long {
		ticks += steps / long * slowRun(r.Ramp, long)
	}
	return ticks
}

// slowCheck: what is wrong with a command alone?
func slowCheck(c api.Command) api.Errno {
	goes := c.Kind == api.Go
	counts := c.Kind == api.Plug || c.Kind == api.Cook || c.Kind == api.Rest || c.Kind == api.Turn
	switch {
	case c.Kind < 1 || c.Kind > 8:
		return api.ErrKind
	case !among([3]int{-far, c.X, far}, [3]int{-far, c.Y, far}, [3]int{-far, c.Z, far}, [3]int{0, c.Value, much}):
		return api.ErrRange
	case !goes && (c.X != 0 || c.Y != 0 || c.Z != 0), !counts && c.Value != 0:
		return api.ErrForm
	}
	return api.OK
}

// slowWrong: what stands against a command, but for its ticks?
func slowWrong(r api.Rig, f api.Firm, c api.Command) api.Errno {
	bound := c.Kind == api.Go || c.Kind == api.Plug || c.Kind == api.Grab || c.Kind == api.Eject
	switch {
	case !slowRig(r):
		return api.ErrRange
	case !slowMay(r, f):
		return api.ErrState
	case slowCheck(c) != api.OK:
		return slowCheck(c)
	case bound && !f.Homed:
		return api.ErrOrder
	case c.Kind == api.Go && !slowIn(r, at(c.X, c.Y, c.Z)):
		return api.ErrBlocked
	case (c.Kind == api.Plug || c.Kind == api.Eject) && !f.Tip, c.Kind == api.Grab && f.Tip:
		return api.ErrTip
	case c.Kind == api.Plug && c.Value > r.Most:
		return api.ErrFull
	}
	return api.OK
}

// slowTicks: how many ticks more, of a command against which nothing else stands.
func slowTicks(r api.Rig, f api.Firm, c api.Command) int {
	switch {
	case c.Kind == api.Home && !f.Homed:
		return slowNeed(r, r.Low, r.High)
	case c.Kind == api.Home || c.Kind == api.Go:
		return slowNeed(r, f.At, at(c.X, c.Y, c.Z))
	case c.Kind == api.Plug:
		return max(slowUp(c.Value-f.Plug, 1000), slowUp(f.Plug-c.Value, 1000))
	case c.Kind == api.Rest:
		return slowUp(c.Value*r.Ramp.Clock, 1000)
	}
	return 0
}

// slowDo: what a command makes of a state.
func slowDo(r api.Rig, f api.Firm, c api.Command) (api.Firm, api.Errno) {
	if e := slowWrong(r, f, c); e != api.OK {
		return api.Firm{}, e
	}
	f.Ticks += slowTicks(r, f, c)
	if f.Ticks > late {
		return api.Firm{}, api.ErrSize
	}
	switch c.Kind {
	case api.Home, api.Go:
		f.Homed, f.At = true, at(c.X, c.Y, c.Z)
	case api.Plug:
		f.Plug = c.Value
	case api.Grab, api.Eject:
		f.Tip, f.Plug = c.Kind == api.Grab, 0
	case api.Cook:
		f.Heat = c.Value
	case api.Turn:
		f.Turns = c.Value
	}
	return f, api.OK
}

// hold Do and May against the slow ones, and against what comes of it.
func hold(t *testing.T, r api.Rig, f api.Firm, c api.Command) (api.Firm, api.Errno) {
	t.Helper()
	want, wrong := slowDo(r, f, c)
	got, e := firm.Do(r, f, c)
	if got != want || e != wrong {
		t.Errorf("Do(%v, %v, %v): %v, %v; wanted %v, %v", r, f, c, got, e, want, wrong)
	}
	if may := slowRig(r) && slowMay(r, f); firm.May(r, f) != may {
		t.Errorf("May(%v, %v): %t", r, f, !may)
	}
	if e == api.OK && (got.Ticks < f.Ticks || !firm.May(r, got) || !slowIn(r, got.At)) {
		t.Errorf("Do(%v, %v, %v): %v", r, f, c, got)
	}
	return got, e
}

// holdNeed against the slow one.
func holdNeed(t *testing.T, r api.Rig, from, to api.Point) api.Errno {
	t.Helper()
	want, wrong := 0, api.OK
	switch {
	case !slowRig(r):
		wrong = api.ErrRange
	case !slowIn(r, from) || !slowIn(r, to):
		wrong = api.ErrForm
	default:
		want = slowNeed(r, from, to)
	}
	got, e := firm.Need(r, from, to)
	if got != want || e != wrong {
		t.Errorf("Need(%v, %v, %v): %d, %v; wanted %d, %v", r, from, to, got, e, want, wrong)
	}
	return e
}

// rig that is drawn; it is one.
func (d *die) rig() api.Rig {
	size := pick(d, 3, 90, 5000, far+1)
	clock := 1 + d.n(pick(d, 9, 2000, fast))
	top := 1 + d.n(clock)
	return api.Rig{
		Low:     at(-d.n(size), -d.n(size), -d.n(size)),
		High:    at(d.n(size), d.n(size), d.n(size)),
		Ramp:    of(clock, 1+d.n(top), top, d.n(pick(d, 2, 20, high+1))),
		PerStep: pick(d, 1+d.n(9), 1+size/500, 1+d.n(wide)),
		Most:    1 + d.n(pick(d, 3, 5000, much)),
	}
}

// number from low to high, one of both often, and now and then one beyond.
func (d *die) number(low, high int) int {
	return pick(d, low, high, low+d.n(high-low+1), low+d.n(high-low+1), low+d.n(high-low+1), pick(d, low, low, low, low-1, high+1))
}

// point of a rig, seldom beyond it.
func (d *die) point(r api.Rig) api.Point {
	return at(d.number(r.Low.X, r.High.X), d.number(r.Low.Y, r.High.Y), d.number(r.Low.Z, r.High.Z))
}

// state of a rig, seldom none.
func (d *die) state(r api.Rig) api.Firm {
	f := api.Firm{Homed: d.n(4) > 0, Tip: d.n(2) > 0, Plug: d.number(0, r.Most)}
	if f.Homed || d.n(20) == 0 {
		f.At = d.point(r)
	}
	f.Heat, f.Turns = d.n(9), pick(d, 0, much, d.n(much))
	f.Ticks = pick(d, 0, 0, d.n(5000), d.n(late), late-d.n(200), d.number(0, late))
	return f
}

// command for a rig, seldom a wrong one.
func (d *die) command(r api.Rig) api.Command {
	p := d.point(r)
	c := pick(d, home(), to(p.X, p.Y, p.Z), to(p.X, p.Y, p.Z), plug(d.number(0, r.Most)), plug(r.Most+d.n(3)), grab(), eject(),
		cook(d.number(0, much)), turn(d.number(0, much)), rest(d.n(pick(d, 9, 5000, much))))
	switch d.n(40) {
	case 0:
		c.X = pick(d, 1, far, far+1)
	case 1:
		c.Value = pick(d, 1, -1, much+1)
	case 2:
		c.Kind = pick(d, 0, 9, -1)
	}
	return c
}

// P18.1, P18.2: drawn rigs, states, commands, moves.
func TestDrawn(t *testing.T) {
	d := die(11)
	seen, moves := map[api.Errno]int{}, map[api.Errno]int{}
	for range 20000 {
		r := d.rig()
		_, e := hold(t, r, d.state(r), d.command(r))
		seen[e]++
		moves[holdNeed(t, r, d.point(r), d.point(r))]++
	}
	for _, e := range []api.Errno{api.OK, api.ErrState, api.ErrKind, api.ErrRange, api.ErrForm, api.ErrOrder, api.ErrBlocked, api.ErrTip, api.ErrFull, api.ErrSize} {
		if seen[e] < 50 {
			t.Errorf("%v: %d of %v", e, seen[e], seen)
		}
	}
	if moves[api.OK] < 1000 || moves[api.ErrForm] < 1000 {
		t.Error(moves)
	}
}

// P18.3: drawn runs: as one command behind the other, up to the first that is refused.
func TestRunDrawn(t *testing.T) {
	d := die(12)
	most := 0
	for range 3000 {
		r := d.rig()
		l := []api.Command{home()}[d.n(8)/7:]
		for range d.n(20) {
			l = append(l, d.command(r))
		}
		f, done, wrong := api.Firm{}, 0, api.OK
		for _, c := range l {
			next, e := hold(t, r, f, c)
			if wrong = e; e != api.OK {
				break
			}
			f, done = next, done+1
		}
		runs(t, r, l, f, done, wrong)
		most = max(most, done)
	}
	if most < 8 {
		t.Error(most)
	}
}

// FuzzFirm: at all numbers.
func FuzzFirm(f *testing.F) {
	f.Add(uint64(1), 0, 0, 0, 0, 0)
	f.Add(uint64(2), 1, 2, 5, 5, 5)
	f.Add(uint64(3), 4, 2, far+1, -far, 7)
	f.Add(uint64(4), 17, 3, least, most, -1)
	f.Add(uint64(5), 9, 7, 0, 0, 1000)
	f.Fuzz(func(t *testing.T, seed uint64, which, kind, x, y, z int) {
		d := die(seed)
		r := d.rig()
		s, p := d.state(r), d.point(r)
		turned := []*int{&r.Low.X, &r.Low.Z, &r.High.Y, &r.PerStep, &r.Most, &r.Ramp.Clock, &r.Ramp.First, &r.Ramp.Most, &r.Ramp.Rise, &s.At.X, &s.At.Y, &s.Plug, &s.Heat, &s.Turns, &s.Ticks}
		if which >= 0 && which < len(turned) {
			*turned[which] = x
		}
		holdNeed(t, r, at(x, y, z), p)
		holdNeed(t, r, p, at(x, y, z))
		for _, c := range []api.Command{{Kind: kind}, {Kind: kind, Value: x}, {Kind: kind, X: x, Y: y, Z: z}, {Kind: kind, X: x, Y: y, Z: z, Value: x}} {
			hold(t, r, s, c)
			want, wrong := slowDo(r, api.Firm{}, c)
			runs(t, r, []api.Command{c}, want, map[bool]int{true: 1, false: 0}[wrong == api.OK], wrong)
		}
	})
}
