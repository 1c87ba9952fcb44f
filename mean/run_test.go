package mean_test

import (
	"fmt"
	"math"
	"slices"
	"testing"

	"workcell/api"
	"workcell/mean"
)

// TestRun: traces that go through, and those that do not (P11.3).
func TestRun(t *testing.T) {
	filled := []api.Action{fill(pA1, "a", 5), fill(pA1, "b", 5), tip, draw(pA1, 7)}
	held := tipped(pour("a", 5, "b", 2), []string{"a", "b"}, in(pA1, "b", 3))
	for _, c := range []struct {
		d    []api.Seat
		l    []api.Action
		want api.State
		n    int
		e    api.Errno
	}{
		{nil, nil, api.State{}, 0, api.OK},
		{table(), []api.Action{}, api.State{}, 0, api.OK},
		{table(), filled, held, 4, api.OK},
		{table(), append(filled[:4:4], put(qA1, 6), drop), api.State{Wells: []api.Filled{in(pA1, "b", 3), in(qA1, "a", 5, "b", 1)}, Used: 1}, 6, api.OK},
		{table(), append(filled[:4:4], tip, drop), held, 4, api.ErrTip},
		{table(), append(filled[:4:4], put(qA1, 8)), held, 4, api.ErrDry},
		{table(), append(filled[:4:4], api.Action{}, drop), held, 4, api.ErrKind},
		{table(), []api.Action{drop}, api.State{}, 0, api.ErrTip},
		{table(), []api.Action{tip, drop, tip, drop, tip, drop, tip, drop, tip, drop, tip, drop, tip}, api.State{Used: 6}, 12, api.ErrEnd},
		{nil, []api.Action{warm(5), shake(1, 2), {Kind: api.Hold, Time: 3}, {Kind: api.Wait, Time: 4}}, api.State{Heat: 5, Clock: 9}, 4, api.OK},
		{nil, []api.Action{{Kind: api.Wait, Time: api.MaxTime}, {Kind: api.Hold, Time: 1}}, api.State{Clock: api.MaxTime}, 1, api.ErrSize},
		{nil, []api.Action{tip}, api.State{}, 0, api.ErrEnd},
		{nil, filled, api.State{}, 0, api.ErrNone},
		{make([]api.Seat, 13), filled, api.State{}, 0, api.ErrCount},
		{make([]api.Seat, 1), []api.Action{{}}, api.State{}, 0, api.ErrRange},
		{append(table(), table()[0]), filled, api.State{}, 0, api.ErrTwice},
		{append(table(), seat(2, "", api.Plate, 1, 1, 1)), nil, api.State{}, 0, api.ErrName},
	} {
		if got, n, e := mean.Run(c.d, c.l); !sameState(got, c.want) || n != c.n || e != c.e {
			t.Errorf("%v: %v %d %v, should be %v %d %v", c.l, got, n, e, c.want, c.n, c.e)
		}
	}
}

// TestExample: the document's example of the whole.
func TestExample(t *testing.T) {
	s, n, e := mean.Run(withTips(30), []api.Action{fill(pA1, "a", 90), tip, draw(pA1, 25), put(qA1, 25), drop})
	if !sameState(s, api.State{Wells: []api.Filled{in(pA1, "a", 65), in(qA1, "a", 25)}, Used: 1}) || n != 5 || e != api.OK {
		t.Error(s, n, e)
	}
}

// drawn: an action, most often one that may be.
func drawn(d *die) api.Action {
	p := pick(d, pA1, pA1, pB1, pA2, pB3, qA1)
	volume := 1 + d.n(6)
	if d.n(40) == 0 {
		p = pick(d, place(7, 0, 0), place(12, 0, 0), place(2, 0, 0), place(1, 2, 0), place(1, -1, 0))
	}
	if d.n(20) == 0 {
		volume = pick(d, 0, -1, 20, 30, 100, 200, 201)
	}
	time := pick(d, 0, 1, 1000, api.MaxTime/2, api.MaxTime, api.MaxTime+1, -1, math.MaxInt)
	switch d.n(12) {
	case 0, 1, 2:
		return fill(p, pick(d, "a", "a", "b", "c9"), volume)
	case 3, 4, 5:
		return draw(p, volume)
	case 6, 7:
		return put(p, volume)
	case 8:
		return tip
	case 9:
		return pick(d, drop, tip)
	case 10:
		return api.Action{Kind: d.n(30), Place: p, Label: "d", Volume: volume, Value: 5}
	}
	return pick(d, warm(time), shake(time, 7), shake(9, time), api.Action{Kind: api.Hold, Time: time}, api.Action{Kind: api.Wait, Time: time})
}

// fine: an action of small parcels in few wells: what makes many of them.
func fine(d *die) api.Action {
	switch d.n(8) {
	case 0:
		return draw(pick(d, pA1, pA2), 1+d.n(3))
	case 1, 2:
		return put(pick(d, pA1, pA2), 1+d.n(4))
	case 3:
		return tip
	}
	return fill(pick(d, pA1, pA2), pick(d, "a", "b", "c", "d"), 1)
}

// follow drawn actions with the oracle: of each what Apply tells; then all that were done with Run.
func follow(t *testing.T, d []api.Seat, l []api.Action, seen map[string]int) {
	t.Helper()
	o := newOracle(d)
	var s api.State
	var done []api.Action
	for turn, a := range l {
		before := o.everything()
		want := o.apply(a)
		next, e := mean.Apply(d, s, a)
		if e != want || e != api.OK && !sameState(next, api.State{}) {
			t.Fatalf("%v on %v: %v %v, should be %v", a, s, next, e, want)
		}
		seen[fmt.Sprint(a.Kind, e)]++
		if e != api.OK && turn%5 == 0 { // now and then: each Run goes over all from the beginning on
			after, i, e := mean.Run(d, append(done[:len(done):len(done)], a))
			if e != want || i != len(done) || !sameState(after, s) {
				t.Fatalf("%v, and %v: %v %d %v, should be %v", done, a, after, i, e, want)
			}
		}
		if e != api.OK {
			continue
		}
		s = next
		done = append(done, a)
		if !sameState(s, o.state()) || !mean.May(d, s) {
			t.Fatalf("%v: %v, should be %v", a, s, o.state())
		}
		for p, units := range o.wells {
			if !slices.Equal(mean.Well(s, p), gathered(units)) {
				t.Fatalf("%v of %v: %v", p, s, mean.Well(s, p))
			}
		}
		if a.Kind != api.Fill && a.Kind != api.Drop && o.everything() != before {
			t.Fatalf("%v: %d, was %d", a, o.everything(), before)
		}
	}
	if after, n, e := mean.Run(d, done); !sameState(after, s) || n != len(done) || e != api.OK {
		t.Fatalf("%v: %v %d %v, should be %v", done, after, n, e, s)
	}
}

// TestDrawn: drawn traces, unit by unit (P11.1 to P11.3).
func TestDrawn(t *testing.T) {
	seen := map[string]int{}
	d := die(11)
	for i := range 300 {
		seats := withTips(pick(&d, 5, 20, 200))
		count, next := 80, drawn
		if i%30 == 0 {
			seats = withTips(200)
			count, next = 600, fine
		}
		var l []api.Action
		for range count {
			l = append(l, next(&d))
		}
		follow(t, seats, l, seen)
	}
	for kind, errors := range map[int][]api.Errno{
		api.Fill:  {api.OK, api.ErrNone, api.ErrKind, api.ErrRange, api.ErrFull, api.ErrCount},
		api.Tip:   {api.OK, api.ErrTip, api.ErrEnd},
		api.Drop:  {api.OK, api.ErrTip},
		api.Draw:  {api.OK, api.ErrNone, api.ErrKind, api.ErrRange, api.ErrTip, api.ErrDry, api.ErrDirty, api.ErrFull},
		api.Put:   {api.OK, api.ErrNone, api.ErrKind, api.ErrRange, api.ErrTip, api.ErrDry, api.ErrFull, api.ErrCount},
		api.Warm:  {api.OK, api.ErrRange},
		api.Hold:  {api.OK, api.ErrRange, api.ErrSize},
		api.Shake: {api.OK, api.ErrRange, api.ErrSize},
		api.Wait:  {api.OK, api.ErrRange, api.ErrSize},
		0:         {api.ErrKind},
	} {
		for _, e := range errors {
			if seen[fmt.Sprint(kind, e)] == 0 {
				t.Errorf("kind %d never came to %v", kind, e)
			}
		}
	}
}

// TestLong: a long trace over a deck full of plates ends soon (P11.3).
func TestLong(t *testing.T) {
	var d []api.Seat
	for slot := 1; slot < api.Slots; slot++ {
		d = append(d, seat(slot, "p"+fmt.Sprint(slot), api.Plate, 16, 24, 1000))
	}
	d = append(d, seat(api.Slots, "r", api.Rack, 16, 24, 1000))
	var l []api.Action
	for slot := api.Slots - 1; slot > 0; slot-- {
		for row := 15; row >= 0; row-- {
			for column := range 24 {
				l = append(l, fill(place(slot, row, column), "a", 2))
			}
		}
	}
	l = append(l, tip)
	for i := range 100000 {
		p := place(1+i%11, i%16, i%24)
		l = append(l, draw(p, 2), put(p, 2))
	}
	s, n, e := mean.Run(d, l)
	if len(s.Wells) != 11*16*24 || n != len(l) || e != api.OK || !mean.May(d, s) {
		t.Error(len(s.Wells), n, e)
	}
}

// roomy: a copy of a list with spare room, so that a change there shows.
func roomy[T any](l []T, spare T) []T { return append(slices.Clone(l), spare, spare, spare)[:len(l)] }

// roomyState: a copy of a state, all of its lists with spare room.
func roomyState(s api.State) api.State {
	s.Wells = roomy(s.Wells, in(pA1, "spare", 1))
	for i := range s.Wells {
		s.Wells[i].Fluid = roomy(s.Wells[i].Fluid, api.Parcel{Label: "spare"})
	}
	s.Held, s.Touched = roomy(s.Held, api.Parcel{Label: "spare"}), roomy(s.Touched, "spare")
	return s
}

// whole: all that a state has, spare room too.
func whole(s api.State) string {
	text := fmt.Sprint(s.Wells[:cap(s.Wells)], s.Held[:cap(s.Held)], s.Touched[:cap(s.Touched)])
	for _, w := range s.Wells {
		text += fmt.Sprint(w.Fluid[:cap(w.Fluid)])
	}
	return text
}

// spoil all of a state, spare room too.
func spoil(s api.State) {
	for _, w := range s.Wells[:cap(s.Wells)] {
		spoilFluid(w.Fluid)
	}
	clear(s.Wells[:cap(s.Wells)])
	spoilFluid(s.Held)
	for i := range s.Touched[:cap(s.Touched)] {
		s.Touched[:cap(s.Touched)][i] = "spoilt"
	}
}

// spoilFluid: all of a fluid.
func spoilFluid(f []api.Parcel) {
	for i := range f[:cap(f)] {
		f[:cap(f)][i] = api.Parcel{Label: "spoilt", Volume: -1}
	}
}

// TestMemory: nothing that is handed in is changed or kept, and no answer shares anything with another list (P11.1 to P11.3).
func TestMemory(t *testing.T) {
	for _, a := range []api.Action{fill(pA1, "a", 5), fill(pB3, "z", 1), draw(pB1, 1), put(pA1, 20), put(pA2, 1), drop, warm(5), shake(1, 1), tip, {}} {
		s, d := roomyState(busy()), roomy(table(), api.Seat{Name: "spare"})
		s.Held[1].Volume, s.Touched = 12, s.Touched[:2]
		before, deckBefore := whole(s), fmt.Sprint(d[:cap(d)])
		one, _ := mean.Apply(d, s, a)
		other, _ := mean.Apply(d, s, a)
		fluid := mean.Well(s, pA1)
		want := copied(other)
		spoil(one)
		spoilFluid(fluid)
		if whole(s) != before || fmt.Sprint(d[:cap(d)]) != deckBefore {
			t.Errorf("%v: handed in, and changed: %s, was %s", a, whole(s), before)
		}
		if !sameState(other, want) {
			t.Errorf("%v: answers share something: %v", a, other)
		}
		spoil(s)
		clear(d)
		if !sameState(other, want) {
			t.Errorf("%v: kept: %v", a, other)
		}
		apart(t, other)
	}
	l := roomy([]api.Action{fill(pA1, "a", 5), fill(pA2, "a", 5), tip, draw(pA1, 2), put(pB1, 1)}, tip)
	before := slices.Clone(l[:cap(l)])
	one, _, _ := mean.Run(table(), l)
	other, _, _ := mean.Run(table(), l)
	want := copied(other)
	spoil(one)
	if !slices.Equal(l[:cap(l)], before) || !sameState(other, want) {
		t.Errorf("Run: %v, should be %v", other, want)
	}
	apart(t, other)
}

// apart: does no list of a state share anything with another one of it? Each is spoilt, and the others looked at.
func apart(t *testing.T, s api.State) {
	t.Helper()
	want := copied(s)
	for i := range s.Wells {
		spoilFluid(s.Wells[i].Fluid)
		want.Wells[i].Fluid = slices.Clone(s.Wells[i].Fluid)
		if !sameState(s, want) {
			t.Errorf("well %d is shared: %v", i, s)
		}
	}
	spoilFluid(s.Held)
	want.Held = slices.Clone(s.Held)
	if !sameState(s, want) {
		t.Errorf("what is held is shared: %v", s)
	}
}

// FuzzRun: actions by bytes, four each.
func FuzzRun(f *testing.F) {
	f.Add([]byte{5, 0, 0, 9, 6, 0, 0, 0, 8, 0, 0, 4, 9, 5, 0, 4, 7, 0, 0, 0})
	f.Fuzz(func(t *testing.T, text []byte) {
		var l []api.Action
		for chunk := range slices.Chunk(text, 4) {
			if len(chunk) == 4 {
				p := place(int(chunk[1]%14), int(chunk[2]/16), int(chunk[2]%16))
				l = append(l, api.Action{Kind: int(chunk[0]), Place: p, Label: string(rune('a' + chunk[3]%3)), Volume: int(chunk[3] / 3), Value: int(chunk[1]), Time: int(chunk[2])})
			}
		}
		follow(t, table(), l, map[string]int{})
	})
}
