package flow_test

import (
	"math"
	"slices"
	"testing"

	"workcell/api"
	"workcell/flow"
)

// TestLevel: one level behind the greatest of those on which an action hangs (P12.4).
func TestLevel(t *testing.T) {
	wait := timed(api.Wait, 1)
	for _, x := range []struct {
		name string
		l    []api.Action
		want [][]int
	}{
		{"nothing", nil, nil},
		{"one", trace(tip), [][]int{{0}}},
		{"the tip's", trace(tip, draw(pA1, 1), put(pB1, 1), drop), [][]int{{0}, {1}, {2}, {3}}},
		{"wells apart", trace(fill(pA1, "a", 1), fill(pB1, "a", 1), fill(pA2, "a", 1)), [][]int{{0, 1, 2}}},
		{"one well", trace(fill(pA1, "a", 1), fill(pA1, "b", 1), fill(pB1, "a", 1), fill(pA1, "c", 1)), [][]int{{0, 2}, {1}, {3}}},
		{"a well ahead of the tip", trace(fill(pA1, "a", 1), fill(pA1, "a", 1), tip, draw(pA1, 1), fill(pB1, "a", 1), put(pB1, 1)), [][]int{{0, 2, 4}, {1}, {3}, {5}}},
		{"the tip ahead of a well", trace(tip, draw(pA1, 1), fill(pA1, "a", 1), fill(pB1, "a", 1), put(pA1, 1)), [][]int{{0, 3}, {1}, {2}, {4}}},
		{"a well raises the tip", trace(times(3, fill(pA1, "a", 1)), tip, draw(pA1, 1), drop, draw(pB1, 1)), [][]int{{0, 3}, {1}, {2}, {4}, {5}, {6}}},
		{"the tip raises a well", trace(tip, drop, tip, draw(pB1, 1), fill(pB1, "a", 1), fill(pA1, "a", 1)), [][]int{{0, 5}, {1}, {2}, {3}, {4}}},
		{"heat and time", trace(timed(api.Warm, 0), timed(api.Hold, 1), timed(api.Shake, 1), wait), [][]int{{0}, {1}, {2}, {3}}},
		{"heat beside the tip", trace(wait, tip, timed(api.Warm, 0), fill(pA1, "a", 1), draw(pA1, 1), wait), [][]int{{0, 1, 3}, {2, 4}, {5}}},
		{"other kinds", trace(tip, api.Action{}, drop, api.Action{Kind: -1, Place: pA1}, fill(pA1, "a", 1), api.Action{Kind: api.Transfer, Place: pA1}, api.Action{Kind: math.MaxInt}, fill(pA1, "a", 1)), [][]int{{0, 1, 3, 4, 5, 6}, {2, 7}}},
		{"only other kinds", make([]api.Action, 4), [][]int{{0, 1, 2, 3}}},
		{"by kind alone", trace(drop, put(pA1, 0), draw(pA1, -1), fill(pA1, "", math.MinInt), timed(api.Wait, -1), timed(api.Hold, math.MaxInt)), [][]int{{0, 4}, {1, 5}, {2}, {3}}},
		{"a place is all of it", trace(fill(place(1, 2, 3), "a", 1), fill(place(1, 3, 2), "a", 1), fill(place(2, 2, 3), "a", 1), fill(place(1, 2, 3), "a", 1)), [][]int{{0, 1, 2}, {3}}},
		{"the place of other kinds is none", trace(api.Action{Kind: api.Tip, Place: pA1}, api.Action{Kind: api.Warm, Place: pA1}, fill(pA1, "a", 1)), [][]int{{0, 1, 2}}},
		{"none of no place", trace(fill(api.Place{}, "a", 1), tip, timed(api.Wait, 1), drop, draw(api.Place{}, 1)), [][]int{{0, 1, 2}, {3}, {4}}},
	} {
		if got, e := flow.Level(x.l); !slices.EqualFunc(got, x.want, slices.Equal) || e != api.OK {
			t.Errorf("%s: %v %v, should be %v", x.name, got, e, x.want)
		}
	}
}

// TestLevelKinds: of each two kinds, whether the second hangs on the first, at one place or at two (P12.4).
func TestLevelKinds(t *testing.T) {
	for first := range 30 {
		for second := range 30 {
			for _, at := range []api.Place{pA1, pB1} {
				l := trace(api.Action{Kind: first, Place: pA1}, api.Action{Kind: second, Place: at})
				want := [][]int{{0, 1}}
				if hangs(l[1], l[0]) {
					want = [][]int{{0}, {1}}
				}
				if got, e := flow.Level(l); !slices.EqualFunc(got, want, slices.Equal) || e != api.OK {
					t.Errorf("%d, then %d at %v: %v %v, should be %v", first, second, at, got, e, want)
				}
			}
		}
	}
}
