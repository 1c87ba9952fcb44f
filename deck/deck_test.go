package deck_test

import (
	"math"
	"slices"
	"strings"
	"testing"

	"workcell/api"
	"workcell/deck"
	"workcell/space"
	"workcell/ware"
)

// The distances from one slot's corner to the next one's, as the chapter's numbers make them.
const (
	across = 137500
	along  = 95500
)

func plate() api.Ware {
	return api.Ware{
		Name: "w", Kind: api.Plate, Rows: 2, Columns: 3, X: 1000, Y: 2000, Pitch: 9000,
		Width: 60000, Length: 30000, Height: 14000, Deep: 10000, Capacity: 200,
	}
}

func rack() api.Ware {
	return api.Ware{
		Name: "tips", Kind: api.Rack, Rows: 2, Columns: 2, X: 500, Y: 600, Pitch: 700,
		Width: 50000, Length: 40000, Height: 50000, Deep: 20000, Capacity: 20,
	}
}

func trash() api.Ware {
	return api.Ware{Name: "bin", Kind: api.Trash, Rows: 1, Columns: 1, X: 5, Y: 6, Width: 10, Length: 20, Height: 30, Deep: 5}
}

// widest ware that a slot takes, as high as can be, with wells up to its sides.
func widest() api.Ware {
	return api.Ware{
		Name: "great", Kind: api.Rack, Rows: 16, Columns: 23, Y: 500, Pitch: 6000,
		Width: api.SlotWidth, Length: api.SlotLength, Height: api.MaxWare, Deep: api.MaxWare, Capacity: api.MaxVolume,
	}
}

func seat(slot int, name string, w api.Ware) api.Seat {
	return api.Seat{Slot: slot, Name: name, Ware: w}
}

// few seats, not in the order of their slots.
func few() []api.Seat {
	return []api.Seat{
		seat(12, "bin", trash()), seat(8, "r", rack()), seat(5, "p", plate()), seat(2, "s", rack()), seat(7, "q", plate()),
	}
}

// full: a seat in each slot, the last first.
func full(w api.Ware) []api.Seat {
	var d []api.Seat
	for i := range api.Slots {
		d = append(d, seat(api.Slots-i, "abcdefghijkl"[i:i+1], w))
	}
	return d
}

// with: a seat that differs from an ordinary one.
func with(change func(*api.Seat)) api.Seat {
	s := seat(5, "p", plate())
	change(&s)
	return s
}

// judgement: a deck, and what Check must say of it.
type judgement struct {
	d    []api.Seat
	want api.Errno
}

// alone: one seat, each of its parts at the edge, and beyond.
func alone() []judgement {
	var list []judgement
	add := func(want api.Errno, changes ...func(*api.Seat)) {
		for _, c := range changes {
			list = append(list, judgement{[]api.Seat{with(c)}, want})
		}
	}
	for slot := 1; slot <= 12; slot++ {
		add(api.OK, func(s *api.Seat) { s.Slot = slot })
	}
	for _, slot := range []int{0, 13, -1, math.MinInt, math.MaxInt} {
		add(api.ErrRange, func(s *api.Seat) { s.Slot = slot })
	}
	sixteen := strings.Repeat("z", 16)
	for _, name := range []string{"a", "z", "a0", "z9", "trash", sixteen, "w"} {
		add(api.OK, func(s *api.Seat) { s.Name = name })
	}
	for _, name := range []string{"", sixteen + "z", "9", "9a", "A", "aB", "a_b", "a b", " a", "a\n", "`", "{", "a/", "a:", "\u00e4", "a\u0660", "a\xff"} {
		add(api.ErrName, func(s *api.Seat) { s.Name = name })
	}
	add(api.OK,
		func(s *api.Seat) { s.Ware = widest() },
		func(s *api.Seat) { s.Ware = trash() },
		func(s *api.Seat) { s.Ware.Width = 132500 },
		func(s *api.Seat) { s.Ware.Length = 90500 },
		func(s *api.Seat) { s.Ware.Height = api.MaxWare })
	add(api.ErrName, func(s *api.Seat) { s.Ware.Name = "W" }, func(s *api.Seat) { s.Ware = api.Ware{} })
	add(api.ErrKind, func(s *api.Seat) { s.Ware.Kind = 0 }, func(s *api.Seat) { s.Ware.Kind = 4 })
	add(api.ErrCount, func(s *api.Seat) { s.Ware.Rows = 17 }, func(s *api.Seat) { s.Ware.Columns = 0 })
	add(api.ErrRange,
		func(s *api.Seat) { s.Ware.Capacity = 0 },
		func(s *api.Seat) { s.Ware.Width = api.MaxWare + 1 },
		func(s *api.Seat) { s.Ware.Length = math.MaxInt })
	add(api.ErrSize,
		func(s *api.Seat) { s.Ware.Deep = s.Ware.Height + 1 },
		func(s *api.Seat) { s.Ware.Width = 132501 },
		func(s *api.Seat) { s.Ware.Length = 90501 },
		func(s *api.Seat) { s.Ware.Width, s.Ware.Length = api.MaxWare, api.MaxWare })
	return list
}

// together: decks of several seats.
func together() []judgement {
	p, q := seat(5, "p", plate()), seat(6, "q", plate())
	thirteen := append(full(plate()), seat(0, "", api.Ware{}))
	return []judgement{
		{nil, api.OK},
		{[]api.Seat{}, api.OK},
		{few(), api.OK},
		{full(plate()), api.OK},
		{full(widest()), api.OK},
		{[]api.Seat{p, q}, api.OK},
		{[]api.Seat{p, seat(5, "q", rack())}, api.ErrTwice},
		{[]api.Seat{p, seat(6, "p", rack())}, api.ErrTwice},
		{[]api.Seat{p, p}, api.ErrTwice},
		{[]api.Seat{p, q, seat(7, "p", rack())}, api.ErrTwice},
		{[]api.Seat{p, q, seat(5, "r", rack())}, api.ErrTwice},
		{append(full(plate())[:11], seat(12, "z", trash())), api.ErrTwice},
		{append(full(plate())[:11], seat(1, "k", trash())), api.ErrTwice},
		{thirteen, api.ErrCount},
		{append(full(plate()), seat(1, "m", plate())), api.ErrCount},
		{slices.Insert(full(plate()), 0, seat(13, "m", plate())), api.ErrCount},
		{make([]api.Seat, 13), api.ErrCount},
		{make([]api.Seat, 1000), api.ErrCount},
		{make([]api.Seat, 12), api.ErrRange},
	}
}

// orderly: decks with more than one thing wrong: the first fault of the first seat that has one.
func orderly() []judgement {
	ahead := seat(5, "p", plate())
	wrongs := []struct {
		spoil func(*api.Seat)
		want  api.Errno
	}{
		{func(s *api.Seat) { s.Slot = 13 }, api.ErrRange},
		{func(s *api.Seat) { s.Name = "P" }, api.ErrName},
		{func(s *api.Seat) { s.Ware.Kind = 4 }, api.ErrKind},
		{func(s *api.Seat) { s.Ware.Rows = 0 }, api.ErrCount},
		{func(s *api.Seat) { s.Ware.Capacity = 0 }, api.ErrRange},
		{func(s *api.Seat) { s.Ware.Width = api.SlotWidth + 1 }, api.ErrSize},
		{func(s *api.Seat) { s.Slot = 5 }, api.ErrTwice},
		{func(s *api.Seat) { s.Name = "p" }, api.ErrTwice},
	}
	var list []judgement
	for i, first := range wrongs {
		for _, second := range wrongs[i:] {
			both := seat(6, "q", plate())
			second.spoil(&both)
			first.spoil(&both)
			list = append(list, judgement{[]api.Seat{ahead, both}, first.want})
		}
		for _, second := range wrongs {
			one, other := seat(6, "q", plate()), seat(7, "r", plate())
			first.spoil(&one)
			second.spoil(&other)
			list = append(list, judgement{[]api.Seat{ahead, one, other}, first.want})
		}
	}
	return list
}

func judged() []judgement {
	return slices.Concat(alone(), together(), orderly())
}

// P5.1: what is wrong, if anything, and which of several errors.
func TestCheck(t *testing.T) {
	for _, c := range judged() {
		if e := deck.Check(c.d); e != c.want {
			t.Errorf("Check(%+v): %v, not %v", c.d, e, c.want)
		}
	}
}

// P5: what Check says, every call says, ahead of its own errors, and answers nothing else.
func TestAllRefuse(t *testing.T) {
	for _, c := range judged() {
		if c.want == api.OK {
			continue
		}
		for _, name := range []string{"p", "none"} {
			if s, e := deck.Find(c.d, name); s != (api.Seat{}) || e != c.want {
				t.Errorf("Find(%+v, %q): %v, %v, not %v", c.d, name, s, e, c.want)
			}
		}
		for _, slot := range []int{5, 99} {
			if p, e := deck.At(c.d, api.Place{Slot: slot}); p != (api.Point{}) || e != c.want {
				t.Errorf("At(%+v, %d): %v, %v, not %v", c.d, slot, p, e, c.want)
			}
		}
		boxes, e1 := deck.Boxes(c.d)
		tips, e2 := deck.Tips(c.d)
		text, e3 := deck.Show(c.d)
		if len(boxes) != 0 || len(tips) != 0 || text != "" {
			t.Errorf("%+v: %v, %v, %q beside an error", c.d, boxes, tips, text)
		}
		if e1 != c.want || e2 != c.want || e3 != c.want {
			t.Errorf("%+v: %v, %v, %v, not %v", c.d, e1, e2, e3, c.want)
		}
	}
}

// P5.1: Find.
func TestFind(t *testing.T) {
	for _, d := range [][]api.Seat{few(), full(widest())} {
		for _, want := range d {
			if s, e := deck.Find(d, want.Name); s != want || e != api.OK {
				t.Errorf("Find(%q): %+v, %v", want.Name, s, e)
			}
		}
	}
	// "w" and "tips" are names of wares, not of seats.
	for _, name := range []string{"", "z", "P", "p ", "pp", "w", "tips", "5", "\xff"} {
		if s, e := deck.Find(few(), name); s != (api.Seat{}) || e != api.ErrNone {
			t.Errorf("Find(%q): %+v, %v", name, s, e)
		}
	}
	if s, e := deck.Find(nil, "p"); s != (api.Seat{}) || e != api.ErrNone {
		t.Errorf("Find on nothing: %+v, %v", s, e)
	}
}

// P5.1: At.
func TestAt(t *testing.T) {
	for _, c := range []struct {
		slot, row, column int
		want              api.Point
	}{
		{5, 0, 0, api.Point{X: 137500 + 1000, Y: 95500 + 2000, Z: 4000}},
		{5, 1, 0, api.Point{X: 137500 + 1000, Y: 95500 + 11000, Z: 4000}},
		{5, 0, 1, api.Point{X: 137500 + 10000, Y: 95500 + 2000, Z: 4000}},
		{5, 1, 2, api.Point{X: 137500 + 19000, Y: 95500 + 11000, Z: 4000}},
		{7, 0, 0, api.Point{X: 1000, Y: 191000 + 2000, Z: 4000}},
		{2, 1, 1, api.Point{X: 137500 + 1200, Y: 1300, Z: 30000}},
		{8, 0, 1, api.Point{X: 137500 + 1200, Y: 191000 + 600, Z: 30000}},
		{12, 0, 0, api.Point{X: 275000 + 5, Y: 286500 + 6, Z: 25}},
	} {
		p := api.Place{Slot: c.slot, Spot: api.Spot{Row: c.row, Column: c.column}}
		if got, e := deck.At(few(), p); got != c.want || e != api.OK {
			t.Errorf("At(%v): %v, %v, not %v", p, got, e, c.want)
		}
	}
}

// P5.1: At, where there is no well.
func TestAtNone(t *testing.T) {
	for _, slot := range []int{1, 3, 4, 6, 9, 10, 11, 0, 13, -5, math.MinInt, math.MaxInt} {
		if p, e := deck.At(few(), api.Place{Slot: slot}); p != (api.Point{}) || e != api.ErrNone {
			t.Errorf("At slot %d: %v, %v", slot, p, e)
		}
	}
	for _, spot := range []api.Spot{
		{Row: 2}, {Column: 3}, {Row: 2, Column: 3}, {Row: -1}, {Column: -1}, {Row: 1, Column: 3}, {Row: 2, Column: 2},
		{Row: math.MinInt}, {Row: math.MaxInt}, {Column: math.MinInt}, {Column: math.MaxInt},
	} {
		if p, e := deck.At(few(), api.Place{Slot: 5, Spot: spot}); p != (api.Point{}) || e != api.ErrNone {
			t.Errorf("At %v: %v, %v", spot, p, e)
		}
	}
	if p, e := deck.At(nil, api.Place{Slot: 1}); p != (api.Point{}) || e != api.ErrNone {
		t.Errorf("At on nothing: %v, %v", p, e)
	}
}

// P5.2: Boxes: in all slots, each from its corner on, in the order of the seats.
func TestBoxes(t *testing.T) {
	corners := []api.Point{
		{}, {X: across}, {X: 2 * across},
		{Y: along}, {X: across, Y: along}, {X: 2 * across, Y: along},
		{Y: 2 * along}, {X: across, Y: 2 * along}, {X: 2 * across, Y: 2 * along},
		{Y: 3 * along}, {X: across, Y: 3 * along}, {X: 2 * across, Y: 3 * along},
	}
	for _, d := range [][]api.Seat{nil, few(), full(plate()), full(widest())} {
		var want []api.Box
		for _, s := range d {
			low := corners[s.Slot-1]
			high := api.Point{X: low.X + s.Ware.Width, Y: low.Y + s.Ware.Length, Z: s.Ware.Height}
			want = append(want, api.Box{Low: low, High: high})
		}
		if got, e := deck.Boxes(d); !slices.Equal(got, want) || e != api.OK {
			t.Errorf("Boxes(%+v): %v, %v, not %v", d, got, e, want)
		}
	}
}

// P5.2: Tips: by slots, whatever order the seats have; then column by column; of racks alone.
func TestTips(t *testing.T) {
	at := func(slot, row, column int) api.Place {
		return api.Place{Slot: slot, Spot: api.Spot{Row: row, Column: column}}
	}
	for _, c := range []struct {
		d    []api.Seat
		want []api.Place
	}{
		{nil, nil},
		{[]api.Seat{seat(1, "p", plate()), seat(2, "t", trash())}, nil},
		{few(), []api.Place{
			at(2, 0, 0), at(2, 1, 0), at(2, 0, 1), at(2, 1, 1), at(8, 0, 0), at(8, 1, 0), at(8, 0, 1), at(8, 1, 1),
		}},
	} {
		if got, e := deck.Tips(c.d); !slices.Equal(got, c.want) || e != api.OK {
			t.Errorf("Tips(%+v): %v, %v, not %v", c.d, got, e, c.want)
		}
	}
	var want []api.Place
	spots, _ := ware.All(widest())
	for slot := range api.Slots {
		for _, s := range spots {
			want = append(want, api.Place{Slot: slot + 1, Spot: s})
		}
	}
	if got, e := deck.Tips(full(widest())); !slices.Equal(got, want) || e != api.OK {
		t.Errorf("Tips of a full deck: %d of %d, %v", len(got), len(want), e)
	}
}

// What comes of it: boxes of a deck do not meet.
func TestBoxesApart(t *testing.T) {
	for _, c := range judged() {
		if c.want != api.OK {
			continue
		}
		boxes, e := deck.Boxes(c.d)
		if e != api.OK {
			t.Errorf("Boxes(%+v): %v", c.d, e)
		}
		if i, j, e := space.Apart(boxes); i != -1 || j != -1 || e != api.OK {
			t.Errorf("Boxes(%+v): %d and %d meet, %v", c.d, i, j, e)
		}
	}
}

// What comes of it: no two wells are in one place; each is in its ware's box.
func TestWellsApart(t *testing.T) {
	for _, d := range [][]api.Seat{few(), full(plate()), full(widest())} {
		seen := map[api.Point]api.Place{}
		boxes, _ := deck.Boxes(d)
		for i, s := range d {
			spots, _ := ware.All(s.Ware)
			for _, spot := range spots {
				p := api.Place{Slot: s.Slot, Spot: spot}
				at, e := deck.At(d, p)
				if other, ok := seen[at]; ok || e != api.OK {
					t.Errorf("At(%v): %v as %v, %v", p, at, other, e)
				}
				seen[at] = p
				low, high := boxes[i].Low, boxes[i].High
				if at.X < low.X || at.X > high.X || at.Y < low.Y || at.Y > high.Y || at.Z < low.Z || at.Z > high.Z {
					t.Errorf("At(%v): %v is not in %v", p, at, boxes[i])
				}
			}
		}
	}
}

// What is handed in stays, its spare room too.
func TestListsStay(t *testing.T) {
	all := full(rack())
	before := slices.Clone(all)
	d := all[:7]
	deck.Check(d)
	deck.Find(d, "a")
	deck.At(d, api.Place{Slot: 9})
	deck.Boxes(d)
	deck.Tips(d)
	deck.Show(d)
	if !slices.Equal(all, before) {
		t.Error(all)
	}
}

// overwrite all of a list, its spare room too.
func overwrite[T any](l []T, with T) {
	l = l[:cap(l)]
	for i := range l {
		l[i] = with
	}
}

// What comes out is new memory: no two answers share any.
func TestAnswersAreNew(t *testing.T) {
	d := few()
	boxes, _ := deck.Boxes(d)
	overwrite(boxes, api.Box{Low: api.Point{X: -7}})
	tips, _ := deck.Tips(d)
	overwrite(tips, api.Place{Slot: -7})
	text, _ := deck.Show(d)
	seats, _, _ := deck.Read(text)
	overwrite(seats, api.Seat{Slot: -7})
	boxes, _ = deck.Boxes(d)
	tips, _ = deck.Tips(d)
	seats, _, _ = deck.Read(text)
	if slices.Contains(boxes[:cap(boxes)], api.Box{Low: api.Point{X: -7}}) ||
		slices.Contains(tips[:cap(tips)], api.Place{Slot: -7}) ||
		slices.Contains(seats[:cap(seats)], api.Seat{Slot: -7}) {
		t.Error("two answers share memory")
	}
	if !slices.Equal(d, few()) {
		t.Error("an answer shares memory with what was handed in")
	}
}
