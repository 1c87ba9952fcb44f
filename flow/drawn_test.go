package flow_test

import (
	"fmt"
	"math"
	"slices"
	"testing"

	"workcell/api"
	"workcell/flow"
	"workcell/mean"
)

// anything: an action of whatever kind, now and then with wrong numbers.
func anything(d *die) api.Action {
	a := api.Action{
		Kind:   pick(d, api.Tip, api.Drop, api.Draw, api.Draw, api.Draw, api.Put, api.Put, api.Put, api.Fill, api.Warm, api.Hold, api.Shake, api.Wait, d.n(40)-5),
		Place:  pick(d, pA1, pB1, pA2, pB3, qA1, api.Place{}),
		Volume: 1 + d.n(6),
		Time:   d.n(9) - 2,
	}
	if d.n(20) == 0 {
		a.Volume = pick(d, 0, -1, math.MinInt, math.MaxInt, api.MaxVolume+1)
	}
	return a
}

// holdAgainst the oracles a trace, whatever it is.
func holdAgainst(t *testing.T, l []api.Action) {
	t.Helper()
	pairs, e := flow.Pairs(l)
	if want := pairsOf(l); !slices.Equal(pairs, want) || e != api.OK {
		t.Fatalf("pairs of %v: %v %v, should be %v", l, pairs, e, want)
	}
	for _, from := range []api.Place{pA1, pB1, pB3, {}, place(99, 0, 0)} {
		places, e := flow.Reach(l, from)
		if want := reachOf(l, from); !slices.Equal(places, want) || e != api.OK {
			t.Fatalf("reach of %v by %v: %v %v, should be %v", from, l, places, e, want)
		}
		for _, p := range pairs { // what came from a place at once is reached, if nothing else
			if p.From == from && !slices.Contains(places, p.Into) {
				t.Fatalf("reach of %v by %v: %v, not %v", from, l, places, p.Into)
			}
		}
	}
	tips, moved, time, e := flow.Usage(l)
	if x, y, z := usageOf(l); tips != x || moved != y || time != z || e != api.OK {
		t.Fatalf("usage of %v: %d %d %d %v, should be %d %d %d", l, tips, moved, time, e, x, y, z)
	}
	sum := 0
	for _, p := range pairs {
		sum += p.Volume
	}
	if sum != moved {
		t.Fatalf("%v: %d came by pairs, %d was moved", l, sum, moved)
	}
	levels, e := flow.Level(l)
	if want := levelsOf(l); !slices.EqualFunc(levels, want, slices.Equal) || e != api.OK {
		t.Fatalf("levels of %v: %v %v, should be %v", l, levels, e, want)
	}
	isParting(t, len(l), levels)
}

// isParting: is each number in just one level, in which numbers rise?
func isParting(t *testing.T, count int, levels [][]int) {
	t.Helper()
	var all []int
	for _, level := range levels {
		if len(level) == 0 || !slices.IsSorted(level) {
			t.Fatalf("a level: %v", level)
		}
		all = append(all, level...)
	}
	slices.Sort(all)
	for i := range count {
		if len(all) != count || all[i] != i {
			t.Fatalf("%d actions, in levels %v", count, levels)
		}
	}
}

// TestDrawn: drawn traces of anything, held against what goes unit by unit (P12.1, P12.2, P12.4).
func TestDrawn(t *testing.T) {
	d := die(12)
	for range 4000 {
		var l []api.Action
		for range d.n(40) {
			l = append(l, anything(&d))
		}
		holdAgainst(t, l)
	}
}

// likely: an action of a trace in which tips are changed often, and wells have few labels.
func likely(d *die, s api.State, last api.Place) api.Action {
	p := pick(d, pA1, last, last, last, last)
	switch n := d.n(20); {
	case !s.Tip && n < 13:
		return tip
	case !s.Tip:
		return fill(pick(d, pA1, pA1, pB1), pick(d, "a", "a", "b"), 1+d.n(8))
	case n < 7:
		return draw(p, 1+d.n(4))
	case n < 12:
		return put(pick(d, pA2, pB1, qA1, qA1, pA1), 1+d.n(4))
	case n < 18:
		return drop
	case n < 19:
		return fill(pick(d, pA1, qA1), pick(d, "a", "b"), 1+d.n(4))
	}
	return timed(pick(d, api.Wait, api.Warm, api.Shake), d.n(3))
}

// mayBe: a drawn trace that may be on a deck, of about so many actions.
func mayBe(d *die, seats []api.Seat, count int) []api.Action {
	var s api.State
	var l []api.Action
	last := pA1
	for range count {
		a := likely(d, s, last)
		next, e := mean.Apply(seats, s, a)
		if e != api.OK {
			continue
		}
		s, l = next, append(l, a)
		if d.n(6) == 0 {
			last = pick(d, pA1, pA1, pA1, pB1, qA1)
		}
	}
	return l
}

// TestSaveDrawn: drawn traces that may be, held against one that runs all for each change (P12.3).
func TestSaveDrawn(t *testing.T) {
	d := die(3)
	changes, went := 0, 0
	for i := range 3000 {
		seats := table(pick(&d, 5, 8, 20))
		l := mayBe(&d, seats, 20+d.n(60))
		got, e := flow.Save(seats, l)
		if want := savedOf(seats, l); !slices.Equal(got, want) || e != api.OK {
			t.Fatalf("%d: %v: %v %v, should be %v", i, l, got, e, want)
		}
		before, _, _, _ := flow.Usage(l)
		after, _, _, _ := flow.Usage(got)
		if after > before || 2*(before-after) != len(l)-len(got) {
			t.Fatalf("%v: %d tips, then %d", l, before, after)
		}
		changes, went = changes+before, went+before-after
	}
	if went < 500 || went > changes-500 {
		t.Errorf("of %d tips %d went: the traces tell too little", changes, went)
	}
}

// spoil a list, spare room too.
func spoil[T any](l []T, with T) {
	for i := range l[:cap(l)] {
		l[:cap(l)][i] = with
	}
}

// TestMemory: nothing that is handed in is changed or kept, and no answer shares anything (P12.1 to P12.4).
func TestMemory(t *testing.T) {
	mark := api.Action{Kind: -7}
	for _, given := range [][]api.Action{
		nil,
		trace(fill(pA1, "a", 100), times(3, move(pA1, pB1, 5, 4)...), move(pB1, pA2, 2, 2), timed(api.Wait, 5)),
		trace(fill(pA1, "a", 100), move(pA1, pB1, 5, 5)),
	} {
		l, d := roomy(given, mark), roomy(table(20), api.Seat{Name: "spare"})
		before := fmt.Sprint(l[:cap(l)], d[:cap(d)])
		all := func() ([]api.Pair, []api.Place, []api.Action, [][]int) {
			p, _ := flow.Pairs(l)
			r, _ := flow.Reach(l, pA1)
			s, _ := flow.Save(d, l)
			v, _ := flow.Level(l)
			return p, r, s, v
		}
		pairs, places, saved, levels := all()
		want := fmt.Sprint(pairs, places, saved, levels)
		p, r, s, v := all()
		spoil(p, api.Pair{Volume: -7})
		spoil(r, place(-7, 0, 0))
		spoil(s, mark)
		for _, level := range v {
			spoil(level, -7)
		}
		spoil(v, nil)
		if now := fmt.Sprint(l[:cap(l)], d[:cap(d)]); now != before {
			t.Errorf("handed in, and changed: %s, was %s", now, before)
		}
		spoil(l, mark)
		clear(d)
		if now := fmt.Sprint(pairs, places, saved, levels); now != want {
			t.Errorf("shared: %s, was %s", now, want)
		}
		isApart(t, levels)
	}
}

// isApart: does no level share anything with another one?
func isApart(t *testing.T, levels [][]int) {
	t.Helper()
	for i := range levels {
		spoil(levels[i], -i-1)
		for j, level := range levels {
			if j != i && slices.Contains(level, -i-1) {
				t.Errorf("levels %d and %d share something", i, j)
			}
		}
	}
}

// FuzzFlow: actions by bytes, three each.
func FuzzFlow(f *testing.F) {
	f.Add([]byte{5, 0, 50, 6, 0, 0, 8, 0, 4, 9, 1, 4, 7, 0, 0, 6, 0, 0, 8, 0, 3, 9, 1, 2, 7, 0, 0, 14, 0, 5})
	f.Fuzz(func(t *testing.T, text []byte) {
		var l []api.Action
		for chunk := range slices.Chunk(text, 3) {
			if len(chunk) == 3 && len(l) < 300 {
				p := []api.Place{pA1, pB1, pA2, pB3, qA1}[chunk[1]%5]
				label := []string{"a", "b"}[chunk[1]/5%2]
				l = append(l, api.Action{Kind: int(chunk[0]), Place: p, Label: label, Volume: int(chunk[2]), Time: int(chunk[1]) - 50})
			}
		}
		holdAgainst(t, l)
		saved, e := flow.Save(table(20), l)
		_, _, refused := mean.Run(table(20), l)
		if (e == api.ErrState) != (refused != api.OK) || e == api.OK && !slices.Equal(saved, savedOf(table(20), l)) {
			t.Fatalf("%v: %v %v", l, saved, e)
		}
	})
}
