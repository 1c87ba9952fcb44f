package book_test

import (
	"slices"
	"testing"

	"workcell/api"
	"workcell/book"
	"workcell/mean"
)

// done: a trace that may be on the table.
func done() []api.Action {
	return []api.Action{
		warm(300), fill(pA1, "a", 5), fill(pA1, "b", 5), tip, draw(pA1, 7), put(qA1, 6), drop, shake(5, 6),
		tip, draw(pA1, 2), hold(7), put(pB3, 1), put(pB3, 1), drop, wait(8), tip,
	}
}

// recovers: are so many actions done, and what is behind them?
func recovers(t *testing.T, d []api.Seat, l []api.Action, b []byte, n int, want api.State) {
	t.Helper()
	if k, s, e := book.Recover(d, l, b); k != n || !sameState(s, want) || e != api.OK {
		t.Errorf("Recover %v from %q: %d, %v, %v; wanted %d, %v", l, b, k, s, e, n, want)
	}
}

// denies: is it refused so, with nothing beside it?
func denies(t *testing.T, d []api.Seat, l []api.Action, b []byte, want api.Errno) {
	t.Helper()
	if k, s, e := book.Recover(d, l, b); k != 0 || !sameState(s, api.State{}) || e != want {
		t.Errorf("Recover %v from %q: %d, %v, %v; wanted %v", l, b, k, s, e, want)
	}
}

// P21.3: states that are known.
func TestRecoverStates(t *testing.T) {
	parcels := func(label string, volume int) []api.Parcel { return []api.Parcel{{Label: label, Volume: volume}} }
	l := done()
	recovers(t, table(), l, bookOf(), 0, api.State{})
	recovers(t, table(), l, bookOf("heat 300"), 1, api.State{Heat: 300})
	five := api.State{
		Wells: []api.Filled{{Place: pA1, Fluid: parcels("b", 3)}}, Tip: true, Touched: []string{"a", "b"}, Used: 1, Heat: 300,
		Held: []api.Parcel{{Label: "a", Volume: 5}, {Label: "b", Volume: 2}},
	}
	b := written(t, l[:5]...)
	recovers(t, table(), l, b, 5, five)
	recovers(t, table(), l, append(b, entry("put 5 A1 6")[:13]...), 5, five)
	recovers(t, table(), l, append(b, entry("put 5 a1 6")...), 5, five)
	recovers(t, table(), l, written(t, l...), len(l), api.State{
		Wells: []api.Filled{
			{Place: pA1, Fluid: parcels("b", 1)}, {Place: pB3, Fluid: parcels("b", 2)},
			{Place: qA1, Fluid: []api.Parcel{{Label: "a", Volume: 5}, {Label: "b", Volume: 1}}},
		},
		Tip: true, Used: 3, Heat: 300, Clock: 21,
	})
	recovers(t, nil, nil, bookOf(), 0, api.State{})
	recovers(t, nil, []api.Action{wait(1), wait(1)}, bookOf("wait 1"), 1, api.State{Clock: 1})
	recovers(t, nil, []api.Action{wait(1), wait(1)}, bookOf("wait 1", "wait 1"), 2, api.State{Clock: 2})
}

// P21.3: through a crash at any byte.
func TestCrash(t *testing.T) {
	l := done()
	b := written(t, l...)
	for size := range len(b) + 1 {
		if size < 4 {
			denies(t, table(), l, b[:size], api.ErrForm)
			continue
		}
		n := 0
		for n < len(l) && len(written(t, l[:n+1]...)) <= size {
			n++
		}
		s, _, _ := mean.Run(table(), l[:n])
		recovers(t, table(), l, b[:size], n, s)
	}
}

// P21.3: books of another trace.
func TestRecoverOrder(t *testing.T) {
	l := done()
	for i := range l {
		denies(t, table(), l, written(t, append(l[:i:i], wait(9))...), api.ErrOrder)
		denies(t, table(), l, written(t, slices.Insert(slices.Clone(l), i, hold(9))...), api.ErrOrder)
		denies(t, table(), l[:i], written(t, l[:i+1]...), api.ErrOrder)
		if i > 0 {
			denies(t, table(), l, written(t, l[i:]...), api.ErrOrder)
		}
	}
	denies(t, table(), l, written(t, append(done(), tip)...), api.ErrOrder)
	denies(t, table(), l, written(t, append(done(), done()...)...), api.ErrOrder)
	denies(t, table(), nil, bookOf("tip"), api.ErrOrder)
	denies(t, nil, []api.Action{wait(1), wait(1)}, bookOf("wait 1", "wait 1", "wait 1"), api.ErrOrder)
	denies(t, nil, []api.Action{wait(1)}, bookOf("hold 1"), api.ErrOrder)
	denies(t, table(), []api.Action{tip, drop}, bookOf("tip", "tip"), api.ErrOrder)
	// A trace may have what a kind has no use for, a book never has.
	strange := []api.Action{wait(1), {Kind: api.Wait, Time: 1, Value: 5, Label: "?"}}
	recovers(t, nil, strange, bookOf("wait 1"), 1, api.State{Clock: 1})
	denies(t, nil, strange, bookOf("wait 1", "wait 1"), api.ErrOrder)
}

// P21.3: deck.Check's error, mean.Run's, Open's, ErrOrder.
func TestRecoverFaults(t *testing.T) {
	l, good := done(), written(t, done()...)
	long := append(slices.Clone(good), make([]byte, api.MaxBook)...)
	decks := map[api.Errno][]api.Seat{
		api.ErrCount: make([]api.Seat, api.Slots+1),
		api.ErrRange: append(table(), seat(13, "x", api.Plate, 1, 1, 1)),
		api.ErrName:  append(table(), seat(3, "X", api.Plate, 1, 1, 1)),
		api.ErrKind:  append(table(), seat(3, "x", 4, 1, 1, 1)),
		api.ErrTwice: append(table(), seat(7, "x", api.Plate, 1, 1, 1)),
	}
	for _, b := range [][]byte{good, nil, []byte("cell"), long, bookOf("wait 1")} {
		for want, d := range decks {
			denies(t, d, l, b, want)
			denies(t, d, append(done(), tip), b, want)
		}
		denies(t, table(), append(done(), tip), b, api.ErrTip)
		denies(t, table(), append(done(), api.Action{}), b, api.ErrKind)
		denies(t, table(), append(done(), put(pA1, 0)), b, api.ErrRange)
		denies(t, table(), append(done(), put(pA1, 1)), b, api.ErrDry)
		denies(t, nil, l, b, api.ErrNone)
	}
	denies(t, table(), l, long, api.ErrSize)
	denies(t, table(), l, nil, api.ErrForm)
	denies(t, table(), nil, good[1:], api.ErrForm)
	denies(t, table(), l[3:], good, api.ErrDry)
	denies(t, table(), nil, make([]byte, api.MaxBook+1), api.ErrSize)
	denies(t, table(), nil, good, api.ErrOrder)
}
