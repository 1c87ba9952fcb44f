package mean_test

import (
	"math"
	"slices"
	"strings"
	"testing"

	"workcell/api"
	"workcell/mean"
)

// busy: a state of the table in which nothing is missing.
func busy() api.State {
	return api.State{
		Wells:   []api.Filled{in(pA1, "a", 5, "b", 5, "a", 1), in(pB1, "c", 200), in(pA2, "a", 1), in(pB3, "b", 1), in(qA1, "a", 30)},
		Tip:     true,
		Held:    pour("b", 7, "a", 13),
		Touched: []string{"a", "b", "c"},
		Used:    6,
		Heat:    310150,
		Clock:   77,
	}
}

// TestMay: states that may be, edges too (P11.1).
func TestMay(t *testing.T) {
	for i, c := range []struct {
		d []api.Seat
		s api.State
	}{
		{nil, api.State{}},
		{[]api.Seat{}, api.State{Wells: []api.Filled{}, Held: []api.Parcel{}, Touched: []string{}}},
		{nil, api.State{Heat: api.MaxVolume, Clock: api.MaxTime}},
		{table(), busy()},
		{table(), api.State{Used: 6}},
		{table(), tipped(nil, nil)},
		{table(), tipped(nil, []string{"a"})},
		{table(), tipped(pour("a", 20), []string{"a"})},
		{table(), tipped(pour("a", 1, "b", 1, "a", 1), []string{"a", "a0", "aa", "b", "z"})},
		{table(), tipped(nil, many(100))},
		{withTips(100), tipped(striped(100), []string{"a", "b"})},
		{withTips(100), tipped(each(many(100)), many(100))},
		{table(), wells(api.Filled{Place: pA1, Fluid: striped(100)})},
		{table(), wells(api.Filled{Place: pA1, Fluid: each(many(100))})},
		{vast(), tipped(pour("a", api.MaxVolume), []string{"a"}, in(pA1, "a", api.MaxVolume), in(pA2, strings.Repeat("z", 16), api.MaxVolume))},
	} {
		if !mean.May(c.d, c.s) {
			t.Errorf("case %d: %v may be", i, c.s)
		}
	}
}

// TestMayNot: a state that may be, with one thing wrong (P11.1). Apply refuses it ahead of all else (P11.2).
func TestMayNot(t *testing.T) {
	for name, spoil := range map[string]func(*api.State){
		"slot 0":              func(s *api.State) { s.Wells[0].Place.Slot = 0 },
		"slot below 0":        func(s *api.State) { s.Wells[0].Place.Slot = math.MinInt },
		"slot without a seat": func(s *api.State) { s.Wells[4].Place.Slot = 6 },
		"slot above":          func(s *api.State) { s.Wells[4].Place.Slot = 13 },
		"row below 0":         func(s *api.State) { s.Wells[0].Place.Spot.Row = -1 },
		"row above":           func(s *api.State) { s.Wells[4].Place.Spot.Row = 1 },
		"column below 0":      func(s *api.State) { s.Wells[0].Place.Spot.Column = -1 },
		"column above":        func(s *api.State) { s.Wells[3].Place.Spot.Column = 3 },
		"on a rack":           func(s *api.State) { s.Wells[4].Place.Slot = 7 },
		"on a trash":          func(s *api.State) { s.Wells[4] = in(place(12, 0, 0), "a", 1) },
		"a well twice":        func(s *api.State) { s.Wells[1].Place = pA1 },
		"a well twice, apart": func(s *api.State) { s.Wells = append(s.Wells, in(pA1, "a", 1)) },
		"slots turned":        func(s *api.State) { s.Wells = append(s.Wells[4:5:5], s.Wells[:4]...) },
		"columns turned":      func(s *api.State) { s.Wells[1], s.Wells[2] = s.Wells[2], s.Wells[1] },
		"rows turned":         func(s *api.State) { s.Wells[0], s.Wells[1] = s.Wells[1], s.Wells[0] },
		"by rows":             func(s *api.State) { s.Wells[1].Place, s.Wells[2].Place = pA2, pB1 },
		"an empty well":       func(s *api.State) { s.Wells[2].Fluid = nil },
		"a well of nothing":   func(s *api.State) { s.Wells[2].Fluid = pour("a", 0) },
		"an empty parcel":     func(s *api.State) { s.Wells[0].Fluid[2].Volume = 0 },
		"a parcel below 0":    func(s *api.State) { s.Wells[0].Fluid[2].Volume = -1 },
		"a vast parcel":       func(s *api.State) { s.Wells[0].Fluid[2].Volume = math.MaxInt },
		"two alike":           func(s *api.State) { s.Wells[0].Fluid[1].Label = "a" },
		"a label that isn't":  func(s *api.State) { s.Wells[0].Fluid[1].Label = "B" },
		"no label":            func(s *api.State) { s.Wells[0].Fluid[1].Label = "" },
		"101 parcels":         func(s *api.State) { s.Wells[0].Fluid = striped(101) },
		"a well of p full":    func(s *api.State) { s.Wells[1].Fluid[0].Volume = 201 },
		"a well of q full":    func(s *api.State) { s.Wells[4].Fluid = pour("a", 30, "b", 1) },
		"held without a tip":  func(s *api.State) { s.Tip, s.Touched = false, nil },
		"touched without one": func(s *api.State) { s.Tip, s.Held = false, nil },
		"a tip too full":      func(s *api.State) { s.Held[0].Volume = 8 },
		"held, empty":         func(s *api.State) { s.Held[0].Volume = 0 },
		"held, below 0":       func(s *api.State) { s.Held[0].Volume = -1 },
		"held, two alike":     func(s *api.State) { s.Held[1].Label = "b" },
		"held, not touched":   func(s *api.State) { s.Touched = []string{"a", "c"} },
		"nothing touched":     func(s *api.State) { s.Touched = nil },
		"touched twice":       func(s *api.State) { s.Touched = []string{"a", "b", "b"} },
		"touched, not rising": func(s *api.State) { s.Touched = []string{"b", "a", "c"} },
		"touched, no label":   func(s *api.State) { s.Touched = []string{"", "a", "b"} },
		"touched, no letter":  func(s *api.State) { s.Touched = []string{"1", "a", "b"} },
		"touched, too long":   func(s *api.State) { s.Touched[2] = strings.Repeat("c", 17) },
		"101 touched":         func(s *api.State) { s.Held, s.Touched = nil, many(101) },
		"used below 0":        func(s *api.State) { *s = api.State{Used: -1} },
		"used above":          func(s *api.State) { s.Used = 7 },
		"used above, no tip":  func(s *api.State) { *s = api.State{Used: 7} },
		"a tip, none used":    func(s *api.State) { s.Used = 0 },
		"a tip, used below":   func(s *api.State) { s.Used = math.MinInt },
		"heat below 0":        func(s *api.State) { s.Heat = -1 },
		"heat above":          func(s *api.State) { s.Heat = api.MaxVolume + 1 },
		"clock below 0":       func(s *api.State) { s.Clock = -1 },
		"clock above":         func(s *api.State) { s.Clock = api.MaxTime + 1 },
		"clock far above":     func(s *api.State) { s.Clock = math.MaxInt },
	} {
		s := busy()
		spoil(&s)
		if mean.May(table(), s) {
			t.Errorf("%s: %v may not be", name, s)
		}
		for _, a := range []api.Action{drop, {Kind: -1}, warm(-1), fill(place(0, 0, 0), "", 0)} {
			if got, e := mean.Apply(table(), s, a); !sameState(got, api.State{}) || e != api.ErrState {
				t.Errorf("%s: Apply: %v %v", name, got, e)
			}
		}
	}
}

// TestMayDeck: the deck must be one, and counts for the state (P11.1).
func TestMayDeck(t *testing.T) {
	twice := append(table(), seat(12, "u", api.Plate, 1, 1, 1))
	nameless := table()
	nameless[2].Name = ""
	tooFew := slices.DeleteFunc(table(), func(s api.Seat) bool { return s.Name == "s" })
	for i, c := range []struct {
		d []api.Seat
		s api.State
	}{
		{twice, api.State{}},
		{nameless, api.State{}},
		{make([]api.Seat, 13), api.State{}},
		{make([]api.Seat, 1), api.State{}},
		{twice, busy()},
		{tooFew, busy()},
		{withTips(19), busy()},
		{withoutTips(), tipped(nil, nil)},
		{withoutTips(), api.State{Used: 1}},
		{nil, wells(in(pA1, "a", 1))},
		{nil, tipped(nil, nil)},
	} {
		if mean.May(c.d, c.s) {
			t.Errorf("case %d: %v may not be", i, c.s)
		}
		if got, e := mean.Apply(c.d, c.s, warm(-1)); !sameState(got, api.State{}) || e != api.ErrState {
			t.Errorf("case %d: Apply: %v %v", i, got, e)
		}
	}
}

// TestWell: of whatever state, as it stands there (P11.1).
func TestWell(t *testing.T) {
	odd := place(math.MinInt, -1, math.MaxInt)
	s := wells(in(qA1, "b", 1), in(pA1, "a", 0, "a", -5, "", math.MaxInt), in(pA1, "c", 1), in(odd, "X", 1), in(pB1), in(pB1, "a", 1), api.Filled{Place: pB3, Fluid: striped(300)})
	for _, c := range []struct {
		p    api.Place
		want []api.Parcel
	}{
		{qA1, pour("b", 1)},
		{pA1, pour("a", 0, "a", -5, "", math.MaxInt)},
		{odd, pour("X", 1)},
		{pB1, nil},
		{pB3, striped(300)},
		{pA2, nil},
		{place(5, 1, 0), nil},
		{place(5, 0, 1), nil},
		{place(4, 0, 0), nil},
		{api.Place{}, nil},
	} {
		if got := mean.Well(s, c.p); !slices.Equal(got, c.want) {
			t.Errorf("%v: %v, should be %v", c.p, got, c.want)
		}
	}
	if got := mean.Well(api.State{}, pA1); len(got) > 0 {
		t.Error(got)
	}
}
