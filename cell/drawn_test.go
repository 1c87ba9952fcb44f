package cell_test

import (
	"fmt"
	"slices"
	"testing"

	"workcell/api"
	"workcell/cell"
	"workcell/firm"
	"workcell/mean"
)

// drawnDeck: wares in some slots, in any order, often of each kind.
func drawnDeck(d *die) []api.Seat {
	var l []api.Seat
	for slot := 1; slot <= api.Slots; slot++ {
		if d.n(3) > 0 {
			continue
		}
		kind := pick(d, api.Plate, api.Plate, api.Rack, api.Trash)
		s := seat(slot, "x"+string(rune('a'+slot)), kind, 1+d.n(3), 1+d.n(3), pick(d, 20, 100, 1000))
		if kind == api.Trash {
			s.Ware.Capacity = 0
		}
		s.Ware.X, s.Ware.Y, s.Ware.Pitch = d.n(100), d.n(100), 1+d.n(3)
		s.Ware.Height = pick(d, 1+d.n(20), api.MaxWare)
		s.Ware.Deep = pick(d, 0, d.n(s.Ware.Height+1), s.Ware.Height)
		l = append(l, s)
	}
	for i := range l {
		j := i + d.n(len(l)-i)
		l[i], l[j] = l[j], l[i]
	}
	return l
}

// likely: an action; which is often one that may be.
func likely(d *die, s api.State, wells []api.Place) api.Action {
	p := pick(d, wells[0], wells[d.n(len(wells))])
	switch n := d.n(20); {
	case n < 4 && len(s.Wells) < 3:
		return fill(p, pick(d, "a", "a", "b"), 1+d.n(20))
	case n < 5:
		return pick(d, warm(d.n(9)), shake(d.n(9), d.n(3)), timed(api.Hold, d.n(3)), timed(api.Wait, d.n(3)))
	case !s.Tip:
		return pick(d, tip, tip, tip, drop)
	case n < 10:
		return draw(p, 1+d.n(6))
	case n < 15:
		return put(p, 1+d.n(6))
	}
	return pick(d, drop, drop, drop, tip)
}

// drawnTrace on a deck: about so many actions, most of them such as may be; now and then a wrong one at the end.
func drawnTrace(d *die, seats []api.Seat, count int) []api.Action {
	wells := placesOf(seats, api.Plate)
	if len(wells) == 0 {
		wells = []api.Place{pA1}
	}
	var s api.State
	var l []api.Action
	for range count {
		a := likely(d, s, wells)
		next, e := mean.Apply(seats, s, a)
		if e == api.OK {
			s, l = next, append(l, a)
		} else if d.n(60) == 0 {
			return append(l, a)
		}
	}
	return l
}

// told: an answer of a list, as a text.
func told[T any](l []T, n int, e api.Errno) string { return fmt.Sprint(len(l), l, n, e) }

// holdCompile against the slow one; what comes of it, too.
func holdCompile(t *testing.T, d []api.Seat, l []api.Action) ([]api.Command, api.Errno) {
	t.Helper()
	got, n, e := cell.Compile(d, l)
	if want := told(slowCompile(d, l)); told(got, n, e) != want {
		t.Fatalf("Compile %v on %v: %s, should be %s", l, d, told(got, n, e), want)
	}
	ticks, late := cell.Ticks(d, l)
	if e != api.OK {
		if ticks != 0 || late != e {
			t.Fatalf("Ticks %v on %v: %d, %v, should be %v", l, d, ticks, late, e)
		}
		return got, e
	}
	r, _ := cell.Rig(d)
	f, done, refused := firm.Run(r, got)
	if done != len(got) || refused != api.OK || ticks != f.Ticks || late != api.OK {
		t.Fatalf("firm %v on %v: %d, %v; %d ticks of %d, %v", got, d, done, refused, ticks, f.Ticks, late)
	}
	isHigh(t, got)
	again, _, e := cell.Watch(d, got)
	if !slices.Equal(telling(again), telling(l)) || e != api.OK {
		t.Fatalf("Watch %v on %v: %v, %v, should be %v", got, d, again, e, l)
	}
	return got, api.OK
}

// telling: the Tips, Drops, Draws, Puts and Warms of actions.
func telling(l []api.Action) []api.Action {
	var some []api.Action
	for _, a := range l {
		if slices.Contains([]int{api.Tip, api.Drop, api.Draw, api.Put, api.Warm}, a.Kind) {
			some = append(some, a)
		}
	}
	return some
}

// isHigh: does the machine go across just high above the deck, and up first?
func isHigh(t *testing.T, l []api.Command) {
	t.Helper()
	var last api.Point
	for _, c := range l {
		next := at(c.X, c.Y, c.Z)
		if c.Kind != api.Go {
			continue
		}
		if isAcross := next.X != last.X || next.Y != last.Y; isAcross && (next.Z != top || last.Z != top) {
			t.Fatalf("%v: from %v to %v", l, last, next)
		}
		last = next
	}
	if last.Z != top {
		t.Fatalf("%v: it ends at %v", l, last)
	}
}

// P20.1, P20.3: drawn decks and traces, held against a second reckoning; and what comes of it.
func TestCompileDrawn(t *testing.T) {
	d := die(20)
	seen, kinds := map[api.Errno]int{}, map[int]int{}
	for range 1500 {
		seats := drawnDeck(&d)
		l, e := holdCompile(t, seats, drawnTrace(&d, seats, d.n(60)))
		seen[e]++
		for _, c := range l {
			kinds[c.Kind]++
		}
	}
	if seen[api.OK] < 300 || seen[api.ErrNone] < 30 || seen[api.ErrDry] < 30 || seen[api.ErrTip] < 30 {
		t.Error(seen)
	}
	for kind := api.Home; kind <= api.Turn; kind++ {
		if kinds[kind] < 100 {
			t.Error(kinds)
		}
	}
}

// holdWatch against the slow one.
func holdWatch(t *testing.T, d []api.Seat, l []api.Command) api.Errno {
	t.Helper()
	got, n, e := cell.Watch(d, l)
	if want := told(slowWatch(d, l)); told(got, n, e) != want {
		t.Fatalf("Watch %v on %v: %s, should be %s", l, d, told(got, n, e), want)
	}
	return e
}

// drawnCommand for a deck: it stands where it may work now and then.
func drawnCommand(d *die, seats []api.Seat, wells []api.Point) []api.Command {
	p := wells[d.n(len(wells))]
	if d.n(30) == 0 {
		p.Z++
	}
	c := pick(d, home(), cook(d.n(5)), rest(d.n(5)), turn(d.n(5)), to(p), grab(), eject(), plug(d.n(4)), plug(d.n(50)), plug(d.n(50)))
	if _, isThere := standsAt(seats, kindFor(c.Kind), p); isThere {
		return []api.Command{to(p), c}
	}
	switch d.n(60) {
	case 0:
		c = pick(d, api.Command{}, plug(-1), api.Command{Kind: api.Home, X: 1})
	case 1: // it may be that it stands at no such place
	default:
		if kindFor(c.Kind) != 0 {
			return nil
		}
	}
	return []api.Command{c}
}

// P20.2: drawn commands, held against a second reckoning.
func TestWatchDrawn(t *testing.T) {
	d := die(21)
	seen := map[api.Errno]int{}
	for range 1500 {
		seats := drawnDeck(&d)
		wells := []api.Point{{}}
		for _, kind := range []int{api.Plate, api.Rack, api.Trash} {
			for _, c := range placesOf(seats, kind) {
				wells = append(wells, pointOf(seats, c))
			}
		}
		var l []api.Command
		for range d.n(40) {
			l = append(l, drawnCommand(&d, seats, wells)...)
		}
		seen[holdWatch(t, seats, l)]++
	}
	if seen[api.OK] < 300 || seen[api.ErrNone] < 50 || seen[api.ErrForm] < 50 {
		t.Error(seen)
	}
}

// P20.2: what is compiled, with one number of it another.
func TestWatchTurned(t *testing.T) {
	d := die(22)
	for range 500 {
		seats := drawnDeck(&d)
		l, _, _ := cell.Compile(seats, drawnTrace(&d, seats, 40))
		if len(l) == 0 {
			continue
		}
		c := &l[d.n(len(l))]
		*pick(&d, &c.Kind, &c.X, &c.Y, &c.Z, &c.Value) += d.n(5) - 2
		holdWatch(t, seats, l)
	}
}

// long: a trace over all plates of a full deck, with all of its tips: each well gives as much as it gets.
func long() []api.Action {
	var l []api.Action
	for slot := range 10 {
		for i := range 384 {
			l = append(l, fill(place(1+slot, i%16, i/16), "a", 500))
		}
	}
	for i := range 384 {
		l = append(l, tip)
		for j := range 100 {
			l = append(l, draw(place(1+j%10, i%16, i/16), 5), put(place(1+(j+1)%10, i%16, i/16), 5))
		}
		l = append(l, drop, warm(i), shake(i, 1))
	}
	return l
}

// P20.1, P20.2, P20.3: a long trace over a full deck ends soon.
func TestLong(t *testing.T) {
	trace := long()
	l, n, e := cell.Compile(full(), trace)
	if len(l) != 2+384*(202*4+4) || n != 0 || e != api.OK {
		t.Error(len(l), n, e)
	}
	again, n, e := cell.Watch(full(), l)
	if len(again) != 384*(202+2) || n != 0 || e != api.OK || !slices.Equal(again[:202], trace[3840:4042]) {
		t.Error(len(again), n, e)
	}
	if ticks, e := cell.Ticks(full(), trace); ticks < len(l)*1000 || e != api.OK {
		t.Error(ticks, e)
	}
}

// roomy: a copy of a list with spare room, so that a change there shows.
func roomy[T any](l []T, spare T) []T { return append(slices.Clone(l), spare, spare, spare)[:len(l)] }

// P20.1, P20.2, P20.3: nothing that is handed in is changed or kept, and no answer shares anything with another one.
func TestMemory(t *testing.T) {
	d := roomy(table(), api.Seat{Name: "spare"})
	l := roomy([]api.Action{fill(pA1, "a", 50), tip, draw(pA1, 5), put(qA1, 2), drop, shake(2, 3)}, api.Action{Kind: -7})
	c := roomy(program(to(points[3]), grab(), work(pointQ, plug(5)), work(pointB3, plug(2)), cook(3)), api.Command{Kind: -7})
	before := fmt.Sprint(d[:cap(d)], l[:cap(l)], c[:cap(c)])
	all := func() ([]api.Command, []api.Action) {
		commands, _, _ := cell.Compile(d, l)
		actions, _, _ := cell.Watch(d, c)
		cell.Rig(d)
		cell.Ticks(d, l)
		return commands, actions
	}
	commands, actions := all()
	want := fmt.Sprint(commands, actions)
	spoiltCommands, spoiltActions := all()
	clear(spoiltCommands[:cap(spoiltCommands)])
	clear(spoiltActions[:cap(spoiltActions)])
	if now := fmt.Sprint(d[:cap(d)], l[:cap(l)], c[:cap(c)]); now != before {
		t.Errorf("handed in, and changed: %s, was %s", now, before)
	}
	if again := fmt.Sprint(all()); again != want {
		t.Errorf("a later call tells %s, not %s", again, want)
	}
	clear(d)
	clear(l)
	clear(c)
	if now := fmt.Sprint(commands, actions); now != want || len(commands) == 0 || len(actions) == 0 {
		t.Errorf("shared: %s, was %s", now, want)
	}
}

// FuzzCell: actions and commands by bytes, three each, on drawn decks.
func FuzzCell(f *testing.F) {
	f.Add(uint64(1), []byte{5, 0, 50, 6, 0, 0, 8, 0, 4, 9, 1, 4, 7, 0, 0})
	f.Add(uint64(2), []byte{1, 0, 0, 2, 0, 0, 4, 0, 0, 2, 9, 1, 3, 0, 5, 6, 0, 7})
	f.Add(uint64(3), []byte{})
	f.Fuzz(func(t *testing.T, seed uint64, text []byte) {
		d := die(seed)
		seats := drawnDeck(&d)
		wells := slices.Concat(placesOf(seats, api.Plate), placesOf(seats, api.Rack), placesOf(seats, api.Trash), []api.Place{pA1})
		var actions []api.Action
		var commands []api.Command
		for chunk := range slices.Chunk(text[:min(len(text)/3*3, 300)], 3) {
			kind, n := int(chunk[0])-1, int(chunk[2])
			p := wells[int(chunk[1])%len(wells)]
			actions = append(actions, api.Action{Kind: kind, Place: p, Label: "a", Volume: n, Value: n, Time: n})
			c := api.Command{Kind: kind % 9, Value: n}
			if kind == api.Go {
				c = to(pointOf(seats, p))
			}
			commands = append(commands, c)
		}
		holdWatch(t, seats, commands)
		got, n, e := cell.Compile(seats, actions)
		if want := told(slowCompile(seats, actions)); told(got, n, e) != want {
			t.Fatalf("Compile %v on %v: %s, should be %s", actions, seats, told(got, n, e), want)
		}
		if e == api.OK {
			holdWatch(t, seats, got)
			isHigh(t, got)
		}
	})
}
