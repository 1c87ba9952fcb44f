package flow_test

import (
	"math"
	"slices"
	"testing"

	"workcell/api"
	"workcell/flow"
)

// pair of places.
func pair(from, into api.Place, volume int) api.Pair {
	return api.Pair{From: from, Into: into, Volume: volume}
}

// TestPairs: what was drawn first is put first, of tips, as far as there is some (P12.1).
func TestPairs(t *testing.T) {
	a, b, c := place(1, 0, 0), place(2, 0, 0), place(3, 0, 0)
	for _, x := range []struct {
		name string
		l    []api.Action
		want []api.Pair
	}{
		{"nothing", nil, nil},
		{"the chapter's", trace(tip, draw(a, 5), put(b, 3), put(c, 2), drop), []api.Pair{pair(a, b, 3), pair(a, c, 2)}},
		{"two draws, one put", trace(tip, draw(a, 5), draw(b, 4), put(c, 7)), []api.Pair{pair(a, c, 5), pair(b, c, 2)}},
		{"first drawn, first put", trace(tip, draw(b, 2), draw(a, 2), draw(b, 2), put(c, 3), put(a, 3)), []api.Pair{pair(a, a, 1), pair(a, c, 1), pair(b, a, 2), pair(b, c, 2)}},
		{"sums", trace(times(3, tip, draw(a, 5), put(b, 2), put(b, 2), drop)), []api.Pair{pair(a, b, 12)}},
		{"both ways", trace(tip, draw(a, 5), put(b, 5), draw(b, 4), put(a, 4)), []api.Pair{pair(a, b, 5), pair(b, a, 4)}},
		{"back", trace(tip, draw(a, 5), put(a, 2)), []api.Pair{pair(a, a, 2)}},
		{"more than there is", trace(tip, draw(a, 5), put(b, 9), put(c, 1)), []api.Pair{pair(a, b, 5)}},
		{"an empty tip", trace(tip, put(b, 9), draw(a, 5)), nil},
		{"dropped", trace(tip, draw(a, 5), drop, tip, put(b, 5)), nil},
		{"a tip upon a tip", trace(tip, draw(a, 5), tip, draw(c, 1), put(b, 5)), []api.Pair{pair(c, b, 1)}},
		{"no tip", trace(draw(a, 5), put(b, 5)), nil},
		{"no tip to draw", trace(draw(a, 5), tip, put(b, 5)), nil},
		{"no tip any more", trace(tip, draw(a, 5), drop, put(b, 5), drop, draw(a, 1), put(b, 1)), nil},
		{"no volume", trace(tip, draw(a, 0), draw(a, -5), draw(a, math.MinInt), draw(a, api.MaxVolume+1), draw(a, math.MaxInt), put(b, 5), draw(a, 1), put(b, 0), put(b, -1), put(b, api.MaxVolume+1), put(b, math.MaxInt), put(b, math.MinInt), put(c, 5)), []api.Pair{pair(a, c, 1)}},
		{"all of it", trace(tip, draw(a, api.MaxVolume), draw(a, api.MaxVolume), put(b, api.MaxVolume), put(b, api.MaxVolume)), []api.Pair{pair(a, b, 2*api.MaxVolume)}},
		{"least", trace(tip, draw(a, 1), put(b, 1)), []api.Pair{pair(a, b, 1)}},
		{"filling is nothing", trace(tip, fill(a, "a", 5), put(b, 5), draw(a, 3), fill(b, "", -1), put(c, 3)), []api.Pair{pair(a, c, 3)}},
		{"other kinds", trace(tip, draw(a, 3), timed(api.Wait, 5), timed(api.Warm, -1), api.Action{Kind: -1, Place: a, Volume: 5}, api.Action{Kind: api.Transfer, Place: c, Volume: 5}, api.Action{Kind: math.MaxInt}, put(b, 3)), []api.Pair{pair(a, b, 3)}},
	} {
		if got, e := flow.Pairs(x.l); !slices.Equal(got, x.want) || e != api.OK {
			t.Errorf("%s: %v %v, should be %v", x.name, got, e, x.want)
		}
	}
}

// mixedPlaces in order: by slots, columns, rows, whatever they are.
func mixedPlaces() []api.Place {
	return []api.Place{
		place(math.MinInt, 0, 0), place(-1, 9, 9), {}, place(1, math.MinInt, 0), place(1, 0, 0), place(1, 1, 0), place(1, 2, 0), place(1, 10, 0),
		place(1, 0, 1), place(1, 1, 1), place(1, math.MinInt, math.MaxInt), place(2, -1, -1), place(2, 0, 0), place(10, 0, 0), place(math.MaxInt, 0, 0),
	}
}

// TestOrder: pairs by From, then Into; places of a reach likewise (P12.1).
func TestOrder(t *testing.T) {
	places := mixedPlaces()
	l := trace(tip)
	var want []api.Pair
	for i := range places {
		for j := range places {
			from, into := places[len(places)-1-i], places[(j*7+3)%len(places)]
			l = append(l, draw(from, 2), put(into, 2))
			want = append(want, pair(places[i], places[j], 2))
		}
	}
	if got, e := flow.Pairs(l); !slices.Equal(got, want) || e != api.OK {
		t.Errorf("%v %v, should be %v", got, e, want)
	}
	for _, from := range places {
		if got, e := flow.Reach(l, from); !slices.Equal(got, places) || e != api.OK {
			t.Errorf("%v: %v %v, should be %v", from, got, e, places)
		}
	}
}

// TestReach: to where something may come, by way of others, from when on (P12.1).
func TestReach(t *testing.T) {
	a, b, c, f := place(1, 0, 0), place(2, 0, 0), place(3, 0, 0), place(4, 0, 0)
	for _, x := range []struct {
		name string
		l    []api.Action
		from api.Place
		want []api.Place
	}{
		{"nothing", nil, a, []api.Place{a}},
		{"elsewhere", trace(tip, draw(b, 5), put(c, 5)), a, []api.Place{a}},
		{"into", trace(tip, draw(b, 5), put(a, 5)), a, []api.Place{a}},
		{"one", trace(tip, draw(a, 5), put(b, 3), put(c, 2)), a, []api.Place{a, b, c}},
		{"by way of others", trace(tip, draw(a, 5), put(b, 5), drop, tip, draw(b, 1), put(c, 1), draw(c, 1), put(f, 1)), a, []api.Place{a, b, c, f}},
		{"in order", trace(tip, draw(c, 5), put(f, 1), put(b, 1), put(a, 1)), c, []api.Place{a, b, c, f}},
		{"ahead of it", trace(tip, draw(b, 5), put(c, 5), drop, tip, draw(a, 5), put(b, 5)), a, []api.Place{a, b}},
		{"drawn ahead of it", trace(tip, draw(a, 1), draw(b, 5), put(b, 1), put(c, 5)), a, []api.Place{a, b}},
		{"drawn ahead of it, and behind", trace(tip, draw(a, 1), draw(b, 5), put(b, 1), draw(b, 1), put(c, 5), put(f, 1)), a, []api.Place{a, b, f}},
		{"both in one put", trace(tip, draw(a, 1), draw(b, 5), put(b, 1), draw(b, 1), put(c, 6)), a, []api.Place{a, b, c}},
		{"other liquid first", trace(tip, draw(b, 5), draw(a, 5), put(c, 5), put(f, 1)), a, []api.Place{a, f}},
		{"behind other liquid", trace(tip, draw(b, 5), draw(a, 5), put(c, 6)), a, []api.Place{a, c}},
		{"round", trace(tip, draw(a, 5), put(b, 5), draw(b, 5), put(a, 5)), b, []api.Place{a, b}},
		{"back alone", trace(tip, draw(a, 5), put(a, 5)), a, []api.Place{a}},
		{"nothing put", trace(tip, draw(a, 5), put(b, 0), put(b, -1), put(b, api.MaxVolume+1)), a, []api.Place{a}},
		{"nothing drawn", trace(tip, draw(a, 0), draw(a, api.MaxVolume+1), put(b, 5)), a, []api.Place{a}},
		{"nothing left", trace(tip, draw(a, 5), put(b, 9), put(c, 1)), a, []api.Place{a, b}},
		{"dropped", trace(tip, draw(a, 5), drop, tip, put(b, 5)), a, []api.Place{a}},
		{"a tip upon a tip", trace(tip, draw(a, 5), tip, draw(c, 5), put(b, 5)), a, []api.Place{a}},
		{"no tip", trace(draw(a, 5), put(b, 5)), a, []api.Place{a}},
		{"the greatest volumes", trace(tip, draw(b, api.MaxVolume), draw(a, api.MaxVolume), put(c, api.MaxVolume), put(f, api.MaxVolume)), a, []api.Place{a, f}},
		{"a strange place", trace(tip, draw(a, 5), put(b, 5)), place(-9, math.MinInt, math.MaxInt), []api.Place{place(-9, math.MinInt, math.MaxInt)}},
	} {
		if got, e := flow.Reach(x.l, x.from); !slices.Equal(got, x.want) || e != api.OK {
			t.Errorf("%s: %v %v, should be %v", x.name, got, e, x.want)
		}
	}
}

// TestUsage: tips, what Puts put, and times (P12.2).
func TestUsage(t *testing.T) {
	const most = api.MaxTime
	for _, x := range []struct {
		name              string
		l                 []api.Action
		tips, moved, time int
		e                 api.Errno
	}{
		{"nothing", nil, 0, 0, 0, api.OK},
		{"some", trace(tip, draw(pA1, 5), put(pB1, 3), timed(api.Hold, 1), put(pA2, 9), drop, timed(api.Wait, 20), timed(api.Shake, 300)), 1, 5, 321, api.OK},
		{"tips upon tips", times(5, tip), 5, 0, 0, api.OK},
		{"drops are none", times(5, drop), 0, 0, 0, api.OK},
		{"puts that count for nothing", trace(put(pB1, 5), tip, put(pB1, 5), draw(pA1, 5), put(pB1, 0), put(pB1, -1), put(pB1, api.MaxVolume+1), drop, put(pB1, 5)), 1, 0, 0, api.OK},
		{"draws that count for nothing", trace(draw(pA1, 5), tip, draw(pA1, api.MaxVolume+1), draw(pA1, 0), put(pB1, 5)), 1, 0, 0, api.OK},
		{"back, too", trace(tip, draw(pA1, 5), put(pA1, 4)), 1, 4, 0, api.OK},
		{"filling is no moving", trace(tip, fill(pA1, "a", 9), draw(pA1, 5)), 1, 0, 0, api.OK},
		{"the greatest volumes", trace(tip, times(100, draw(pA1, api.MaxVolume), put(pB1, api.MaxVolume))), 1, 100 * api.MaxVolume, 0, api.OK},
		{"below 0", trace(timed(api.Hold, -1), timed(api.Wait, math.MinInt), timed(api.Shake, -most), timed(api.Wait, 0), timed(api.Wait, 7)), 0, 0, 7, api.OK},
		{"other kinds", trace(timed(api.Warm, 5), timed(api.Tip, 5), timed(api.Fill, most+1), timed(0, math.MaxInt), timed(api.Drop, 5)), 1, 0, 0, api.OK},
		{"most", trace(timed(api.Hold, most-2), timed(api.Wait, 1), timed(api.Shake, 1)), 0, 0, most, api.OK},
		{"most at once", trace(timed(api.Shake, most)), 0, 0, most, api.OK},
		{"more", trace(tip, draw(pA1, 5), put(pB1, 5), timed(api.Hold, most), timed(api.Wait, 1)), 0, 0, 0, api.ErrSize},
		{"more, made up for", trace(timed(api.Hold, most), timed(api.Wait, 1), timed(api.Wait, -5)), 0, 0, 0, api.ErrSize},
		{"more at once", trace(timed(api.Hold, most+1)), 0, 0, 0, api.ErrSize},
		{"much more", trace(timed(api.Hold, math.MaxInt), timed(api.Hold, math.MaxInt), timed(api.Hold, 2)), 0, 0, 0, api.ErrSize},
		{"the greatest behind one", trace(timed(api.Hold, 1), timed(api.Shake, math.MaxInt)), 0, 0, 0, api.ErrSize},
	} {
		tips, moved, time, e := flow.Usage(x.l)
		if tips != x.tips || moved != x.moved || time != x.time || e != x.e {
			t.Errorf("%s: %d %d %d %v, should be %d %d %d %v", x.name, tips, moved, time, e, x.tips, x.moved, x.time, x.e)
		}
	}
}

// TestCount: just so many actions, for all, ahead of all else (P12).
func TestCount(t *testing.T) {
	few := times(api.MaxTrace, timed(api.Wait, 1))
	many := append(few[:api.MaxTrace:api.MaxTrace], tip, timed(api.Wait, api.MaxTime), drop, drop)
	for _, x := range []struct {
		l []api.Action
		e api.Errno
	}{{few, api.OK}, {many[:api.MaxTrace+1], api.ErrCount}, {many, api.ErrCount}} {
		pairs, e := flow.Pairs(x.l)
		if len(pairs) != 0 || e != x.e {
			t.Error("Pairs:", len(x.l), pairs, e)
		}
		places, e := flow.Reach(x.l, pA1)
		if (len(places) == 1) != (e == api.OK) || e != x.e {
			t.Error("Reach:", len(x.l), places, e)
		}
		tips, moved, time, e := flow.Usage(x.l)
		if tips != 0 || moved != 0 || (time == api.MaxTrace) != (e == api.OK) || e != x.e {
			t.Error("Usage:", len(x.l), tips, moved, time, e)
		}
		saved, e := flow.Save(table(20), x.l)
		if e == api.OK && !slices.Equal(saved, x.l) || e != api.OK && len(saved) != 0 || e != x.e {
			t.Error("Save:", len(x.l), len(saved), e)
		}
		levels, e := flow.Level(x.l)
		if (len(levels) == api.MaxTrace) != (e == api.OK) || e != x.e {
			t.Error("Level:", len(x.l), len(levels), e)
		}
	}
}
