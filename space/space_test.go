package space_test

import (
	"math"
	"slices"
	"testing"

	"workcell/api"
	"workcell/space"
)

const far = api.MaxPlace

// box from three numbers to three others.
func box(x, y, z, x2, y2, z2 int) api.Box {
	return api.Box{Low: api.Point{X: x, Y: y, Z: z}, High: api.Point{X: x2, Y: y2, Z: z2}}
}

func at(x, y, z int) api.Point { return api.Point{X: x, Y: y, Z: z} }

// cube of a size, its low end at a point.
func cube(x, y, z, size int) api.Box { return box(x, y, z, x+size, y+size, z+size) }

// die: numbers that look drawn, the same each time.
type die uint64

func (d *die) n(most int) int {
	*d = *d*6364136223846793005 + 1442695040888963407
	return int(uint64(*d>>33) % uint64(most))
}

// box within a small room, often flat.
func (d *die) box() api.Box {
	p := at(d.n(7)-3, d.n(7)-3, d.n(7)-3)
	return api.Box{Low: p, High: at(p.X+d.n(5), p.Y+d.n(5), p.Z+d.n(5))}
}

func (d *die) boxes() []api.Box {
	l := make([]api.Box, d.n(6))
	for i := range l {
		l[i] = d.box()
	}
	return l
}

// meet: as the chapter says it, number by number.
func meet(a, b api.Box) bool {
	return a.Low.X < b.High.X && b.Low.X < a.High.X &&
		a.Low.Y < b.High.Y && b.Low.Y < a.High.Y &&
		a.Low.Z < b.High.Z && b.Low.Z < a.High.Z
}

func shift(a api.Box, x, y, z int) api.Box {
	return box(a.Low.X+x, a.Low.Y+y, a.Low.Z+z, a.High.X+x, a.High.Y+y, a.High.Z+z)
}

func around(a, b api.Box) api.Box {
	return box(min(a.Low.X, b.Low.X), min(a.Low.Y, b.Low.Y), min(a.Low.Z, b.Low.Z),
		max(a.High.X, b.High.X), max(a.High.Y, b.High.Y), max(a.High.Z, b.High.Z))
}

// none: boxes that are refused, and why.
var none = []struct {
	name string
	b    api.Box
	e    api.Errno
}{
	{"low X", box(-far-1, 0, 0, 1, 1, 1), api.ErrRange},
	{"low Y", box(0, -far-1, 0, 1, 1, 1), api.ErrRange},
	{"low Z", box(0, 0, -far-1, 1, 1, 1), api.ErrRange},
	{"high X", box(0, 0, 0, far+1, 1, 1), api.ErrRange},
	{"high Y", box(0, 0, 0, 1, far+1, 1), api.ErrRange},
	{"high Z", box(0, 0, 0, 1, 1, far+1), api.ErrRange},
	{"least", box(math.MinInt, 0, 0, 1, 1, 1), api.ErrRange},
	{"greatest", box(0, 0, 0, 1, 1, math.MaxInt), api.ErrRange},
	{"low above high, X", box(2, 0, 0, 1, 1, 1), api.ErrForm},
	{"low above high, Y", box(0, 2, 0, 1, 1, 1), api.ErrForm},
	{"low above high, Z", box(0, 0, 2, 1, 1, 1), api.ErrForm},
	{"low above high by all that can be", box(0, 0, far, 1, 1, -far), api.ErrForm},
	{"both: the range is ahead", box(2, 0, 0, 1, 1, far+1), api.ErrRange},
	{"low too far above", box(far+1, 0, 0, 1, 1, 1), api.ErrRange},
	{"high too far below", box(0, 0, 0, 1, 1, -far-1), api.ErrRange},
}

// calls with two boxes, or with a box behind a list.
func callsOfTwo(a, b api.Box) map[string]api.Errno {
	m, e1 := space.Meet(a, b)
	h, e2 := space.Hull(a, b)
	i, j, e3 := space.Apart([]api.Box{a, b})
	n, e4 := space.First([]api.Box{a}, b)
	s, e5 := space.Safe([]api.Box{a}, b, api.Point{})
	if m || h != (api.Box{}) || i != 0 || j != 0 || n != 0 || s != 0 {
		return map[string]api.Errno{"an answer beside an error": -1}
	}
	return map[string]api.Errno{"Meet": e1, "Hull": e2, "Apart": e3, "First": e4, "Safe": e5}
}

// All: each box in order, with nothing beside the error.
func TestBoxesRefused(t *testing.T) {
	good := cube(0, 0, 0, 1)
	for _, c := range none {
		for _, pair := range [][2]api.Box{{c.b, good}, {good, c.b}, {c.b, c.b}} {
			for call, e := range callsOfTwo(pair[0], pair[1]) {
				if e != c.e {
					t.Errorf("%s: %s(%v): %v", c.name, call, pair, e)
				}
			}
		}
		for _, by := range []api.Point{{}, at(far+1, 0, 0), at(1, 1, 1)} {
			if b, e := space.Move(c.b, by); e != c.e || b != (api.Box{}) {
				t.Errorf("%s: Move by %v: %v %v", c.name, by, b, e)
			}
			if b, e := space.Sweep(c.b, by); e != c.e || b != (api.Box{}) {
				t.Errorf("%s: Sweep by %v: %v %v", c.name, by, b, e)
			}
		}
	}
}

// All: the first box's fault is told, not the first kind of fault.
func TestFirstBoxIsTold(t *testing.T) {
	formless, distant := box(1, 0, 0, 0, 0, 0), box(0, 0, 0, 0, 0, far+1)
	for call, e := range callsOfTwo(formless, distant) {
		if e != api.ErrForm {
			t.Errorf("%s: %v", call, e)
		}
	}
	for call, e := range callsOfTwo(distant, formless) {
		if e != api.ErrRange {
			t.Errorf("%s: %v", call, e)
		}
	}
	if n, e := space.Safe([]api.Box{formless}, distant, at(far+1, 0, 0)); n != 0 || e != api.ErrForm {
		t.Error(n, e)
	}
	if n, e := space.Safe(nil, formless, at(far+1, 0, 0)); n != 0 || e != api.ErrForm {
		t.Error(n, e)
	}
}

// All: a point's numbers.
func TestPointsRefused(t *testing.T) {
	a := cube(0, 0, 0, 0)
	for _, n := range []int{-far - 1, far + 1, math.MinInt, math.MaxInt} {
		for _, by := range []api.Point{at(n, 0, 0), at(0, n, 0), at(0, 0, n), at(n, 1, 1)} {
			if b, e := space.Move(a, by); e != api.ErrRange || b != (api.Box{}) {
				t.Errorf("Move by %v: %v %v", by, b, e)
			}
			if b, e := space.Sweep(a, by); e != api.ErrRange || b != (api.Box{}) {
				t.Errorf("Sweep by %v: %v %v", by, b, e)
			}
			if h, e := space.Safe(nil, a, by); e != api.ErrRange || h != 0 {
				t.Errorf("Safe by %v: %v %v", by, h, e)
			}
		}
	}
}

// Moving back from an end goes as far as a point can tell, and no box may come of a number that is too great.
func TestPointTooFarToComeBack(t *testing.T) {
	a := box(far, 0, 0, far, 0, 0)
	if b, e := space.Move(a, at(-far-1, 0, 0)); e != api.ErrRange || b != (api.Box{}) {
		t.Error(b, e)
	}
	if h, e := space.Safe(nil, a, at(-far-1, 0, 0)); e != api.ErrRange || h != 0 {
		t.Error(h, e)
	}
}

// All: a list of more than MaxBoxes is refused ahead of all else.
func TestCount(t *testing.T) {
	bad := box(1, 0, 0, 0, 0, far+1)
	for _, c := range []struct {
		n int
		b api.Box
		e api.Errno
	}{
		{api.MaxBoxes, cube(0, 0, 0, 0), api.OK},
		{api.MaxBoxes + 1, cube(0, 0, 0, 0), api.ErrCount},
		{api.MaxBoxes + 1, bad, api.ErrCount},
		{api.MaxBoxes, bad, api.ErrRange},
		{1000, bad, api.ErrCount},
	} {
		l := slices.Repeat([]api.Box{c.b}, c.n)
		if _, e := space.First(l, c.b); e != c.e {
			t.Errorf("First of %d: %v", c.n, e)
		}
		if _, _, e := space.Apart(l); e != c.e {
			t.Errorf("Apart of %d: %v", c.n, e)
		}
		if _, e := space.Safe(l, c.b, api.Point{}); e != c.e {
			t.Errorf("Safe of %d: %v", c.n, e)
		}
	}
	l := slices.Repeat([]api.Box{cube(0, 0, 0, 1)}, api.MaxBoxes+1)
	if n, e := space.First(l, l[0]); n != 0 || e != api.ErrCount {
		t.Error(n, e)
	}
	if i, j, e := space.Apart(l); i != 0 || j != 0 || e != api.ErrCount {
		t.Error(i, j, e)
	}
	if n, e := space.Safe(l, bad, at(far+1, 0, 0)); n != 0 || e != api.ErrCount {
		t.Error(n, e)
	}
}

// P4.1: Meet.
func TestMeet(t *testing.T) {
	for _, c := range []struct {
		name string
		a, b api.Box
		want bool
	}{
		{"the chapter's example", cube(0, 0, 0, 1), box(1, 0, 0, 2, 1, 1), false},
		{"the same", cube(0, 0, 0, 1), cube(0, 0, 0, 1), true},
		{"one in the other", cube(0, 0, 0, 9), cube(3, 3, 3, 1), true},
		{"side by side, Y", cube(0, 0, 0, 2), cube(0, 2, 0, 2), false},
		{"side by side, Z", cube(0, 0, 0, 2), cube(0, 0, 2, 2), false},
		{"over one, X", cube(0, 0, 0, 2), cube(1, 0, 0, 2), true},
		{"over one, Y", cube(0, 0, 0, 2), cube(0, 1, 0, 2), true},
		{"over one, Z", cube(0, 0, 0, 2), cube(0, 0, 1, 2), true},
		{"at one edge", cube(0, 0, 0, 2), cube(2, 2, 0, 2), false},
		{"at one corner", cube(0, 0, 0, 2), cube(2, 2, 2, 2), false},
		{"far away in one direction", cube(0, 0, 0, 2), cube(0, 0, 9, 2), false},
		{"a sheet within", cube(0, 0, 0, 4), box(0, 0, 2, 4, 4, 2), true},
		{"a sheet at the side", cube(0, 0, 0, 4), box(0, 0, 4, 4, 4, 4), false},
		{"a sheet at the ground", cube(0, 0, 0, 4), box(0, 0, 0, 4, 4, 0), false},
		{"a point within", cube(0, 0, 0, 4), cube(2, 2, 2, 0), true},
		{"a point at the side", cube(0, 0, 0, 4), cube(2, 2, 4, 0), false},
		{"two sheets alike", box(0, 0, 2, 4, 4, 2), box(0, 0, 2, 4, 4, 2), false},
		{"two sheets, crossed", box(0, 0, 2, 4, 4, 2), box(2, 0, 0, 2, 4, 4), true},
		{"two points alike", cube(1, 1, 1, 0), cube(1, 1, 1, 0), false},
		{"all there is", cube(-far, -far, -far, 2*far), cube(far-1, far-1, far-1, 1), true},
		{"from end to end", cube(-far, -far, -far, far), cube(0, 0, 0, far), false},
	} {
		for _, pair := range [][2]api.Box{{c.a, c.b}, {c.b, c.a}} {
			if got, e := space.Meet(pair[0], pair[1]); got != c.want || e != api.OK {
				t.Errorf("%s: Meet(%v): %v %v", c.name, pair, got, e)
			}
		}
	}
}

// P4.1: Meet: along each direction, all intervals of a few numbers.
func TestMeetEach(t *testing.T) {
	const most = 4
	for n := range most * most * most * most {
		a, b, c, d := n%most, n/most%most, n/most/most%most, n/most/most/most
		if a > b || c > d {
			continue
		}
		want := a < d && c < b
		for i, pair := range [][2]api.Box{
			{box(a, 0, 0, b, 1, 1), box(c, 0, 0, d, 1, 1)},
			{box(0, a, 0, 1, b, 1), box(0, c, 0, 1, d, 1)},
			{box(0, 0, a, 1, 1, b), box(0, 0, c, 1, 1, d)},
		} {
			if got, e := space.Meet(pair[0], pair[1]); got != want || e != api.OK {
				t.Errorf("direction %d: %v: %v %v", i, pair, got, e)
			}
		}
	}
}

// P4.1: Hull: both are in it, and in no less.
func TestHull(t *testing.T) {
	for _, c := range []struct{ a, b, want api.Box }{
		{cube(0, 0, 0, 1), cube(0, 0, 0, 1), cube(0, 0, 0, 1)},
		{cube(0, 0, 0, 1), cube(5, 6, 7, 2), box(0, 0, 0, 7, 8, 9)},
		{box(0, 5, 0, 1, 6, 9), box(-3, 7, 4, 9, 8, 5), box(-3, 5, 0, 9, 8, 9)},
		{cube(0, 0, 0, 9), cube(1, 1, 1, 1), cube(0, 0, 0, 9)},
		{cube(far, far, far, 0), cube(-far, -far, -far, 0), box(-far, -far, -far, far, far, far)},
		{cube(1, 2, 3, 0), cube(1, 2, 3, 0), cube(1, 2, 3, 0)},
	} {
		for _, pair := range [][2]api.Box{{c.a, c.b}, {c.b, c.a}} {
			if got, e := space.Hull(pair[0], pair[1]); got != c.want || e != api.OK {
				t.Errorf("Hull(%v): %v %v", pair, got, e)
			}
		}
	}
	d := die(2)
	for range 2000 {
		a, b := d.box(), d.box()
		if got, e := space.Hull(a, b); got != around(a, b) || e != api.OK {
			t.Fatalf("Hull(%v, %v): %v %v", a, b, got, e)
		}
	}
}

// P4.1: Move: just as far as can be, and one farther.
func TestMove(t *testing.T) {
	a := box(-1, -2, -3, 4, 5, 6)
	for _, c := range []struct {
		by   api.Point
		want api.Box
		e    api.Errno
	}{
		{at(0, 0, 0), a, api.OK},
		{at(1, 2, 3), box(0, 0, 0, 5, 7, 9), api.OK},
		{at(-1, 0, 4), box(-2, -2, 1, 3, 5, 10), api.OK},
		{at(far-4, 0, 0), box(far-5, -2, -3, far, 5, 6), api.OK},
		{at(far-3, 0, 0), api.Box{}, api.ErrRange},
		{at(0, far-5, 0), box(-1, far-7, -3, 4, far, 6), api.OK},
		{at(0, far-4, 0), api.Box{}, api.ErrRange},
		{at(0, 0, far-6), box(-1, -2, far-9, 4, 5, far), api.OK},
		{at(0, 0, far-5), api.Box{}, api.ErrRange},
		{at(1-far, 0, 0), box(-far, -2, -3, 5-far, 5, 6), api.OK},
		{at(-far, 0, 0), api.Box{}, api.ErrRange},
		{at(0, 2-far, 0), box(-1, -far, -3, 4, 7-far, 6), api.OK},
		{at(0, 1-far, 0), api.Box{}, api.ErrRange},
		{at(0, 0, 3-far), box(-1, -2, -far, 4, 5, 9-far), api.OK},
		{at(0, 0, 2-far), api.Box{}, api.ErrRange},
	} {
		if got, e := space.Move(a, c.by); got != c.want || e != c.e {
			t.Errorf("Move by %v: %v %v", c.by, got, e)
		}
	}
	if got, e := space.Move(cube(far, far, far, 0), at(-far, -far, -far)); got != (api.Box{}) || e != api.OK {
		t.Error(got, e)
	}
}

// P4.1: Sweep.
func TestSweep(t *testing.T) {
	a := cube(1, 1, 1, 2)
	for _, c := range []struct {
		by   api.Point
		want api.Box
		e    api.Errno
	}{
		{at(0, 0, 0), a, api.OK},
		{at(4, 0, 0), box(1, 1, 1, 7, 3, 3), api.OK},
		{at(-4, 0, 0), box(-3, 1, 1, 3, 3, 3), api.OK},
		{at(0, 1, 0), box(1, 1, 1, 3, 4, 3), api.OK},
		{at(0, -1, 0), box(1, 0, 1, 3, 3, 3), api.OK},
		{at(0, 0, 9), box(1, 1, 1, 3, 3, 12), api.OK},
		{at(0, 0, -9), box(1, 1, -8, 3, 3, 3), api.OK},
		{at(far-3, 0, 0), box(1, 1, 1, far, 3, 3), api.OK},
		{at(far-2, 0, 0), api.Box{}, api.ErrRange},
		{at(1, 1, 0), api.Box{}, api.ErrKind},
		{at(1, 0, -1), api.Box{}, api.ErrKind},
		{at(0, -1, 1), api.Box{}, api.ErrKind},
		{at(1, -1, 0), api.Box{}, api.ErrKind},
		{at(1, 1, 1), api.Box{}, api.ErrKind},
		{at(1, far-2, 0), api.Box{}, api.ErrRange},
		{at(1, far-3, 0), api.Box{}, api.ErrKind},
		{at(1, far+1, 0), api.Box{}, api.ErrRange},
	} {
		if got, e := space.Sweep(a, c.by); got != c.want || e != c.e {
			t.Errorf("Sweep by %v: %v %v", c.by, got, e)
		}
	}
}

// P4.1: a box that moves meets nothing outside its Sweep.
func TestSweepHoldsTheWay(t *testing.T) {
	d := die(3)
	for range 2000 {
		a, b, n := d.box(), d.box(), d.n(11)-5
		by := []api.Point{at(n, 0, 0), at(0, n, 0), at(0, 0, n)}[d.n(3)]
		s, e := space.Sweep(a, by)
		if e != api.OK {
			t.Fatal(a, by, e)
		}
		swept, _ := space.Meet(s, b)
		for k := range max(n, -n) + 1 {
			step := at(sign(by.X)*k, sign(by.Y)*k, sign(by.Z)*k)
			there, e := space.Move(a, step)
			if e != api.OK || around(s, there) != s {
				t.Fatalf("%v by %v: at %v outside %v (%v)", a, by, there, s, e)
			}
			if on, _ := space.Meet(there, b); on && !swept {
				t.Fatalf("%v by %v meets %v on its way", a, by, b)
			}
		}
	}
}

func sign(n int) int {
	switch {
	case n < 0:
		return -1
	case n > 0:
		return 1
	}
	return 0
}

// P4.2: First.
func TestFirst(t *testing.T) {
	l := []api.Box{cube(0, 0, 0, 2), cube(5, 0, 0, 2), cube(4, 0, 0, 2), cube(2, 0, 0, 1)}
	for _, c := range []struct {
		l    []api.Box
		a    api.Box
		want int
	}{
		{nil, cube(0, 0, 0, 9), -1},
		{[]api.Box{}, cube(0, 0, 0, 9), -1},
		{l, cube(0, 0, 0, 9), 0},
		{l, cube(5, 1, 1, 1), 1},
		{l, cube(4, 0, 0, 1), 2},
		{l, cube(2, 0, 0, 3), 2},
		{l, cube(2, 0, 0, 1), 3},
		{l, cube(3, 0, 0, 1), -1},
		{l, cube(7, 0, 0, 9), -1},
		{l, cube(0, 0, 2, 9), -1},
	} {
		if got, e := space.First(c.l, c.a); got != c.want || e != api.OK {
			t.Errorf("First(%v, %v): %d %v", c.l, c.a, got, e)
		}
	}
}

// P4.2: First, at many lists: by going over them.
func TestFirstOfMany(t *testing.T) {
	d := die(4)
	for range 3000 {
		l, a := d.boxes(), d.box()
		want := slices.IndexFunc(l, func(b api.Box) bool { return meet(a, b) })
		if got, e := space.First(l, a); got != want || e != api.OK {
			t.Fatalf("First(%v, %v): %d %v", l, a, got, e)
		}
	}
}

// P4.2: Apart.
func TestApart(t *testing.T) {
	for _, c := range []struct {
		name string
		l    []api.Box
		i, j int
	}{
		{"no box", nil, -1, -1},
		{"one box", []api.Box{cube(0, 0, 0, 1)}, -1, -1},
		{"side by side", []api.Box{cube(0, 0, 0, 1), cube(1, 0, 0, 1), cube(2, 0, 0, 1)}, -1, -1},
		{"two", []api.Box{cube(0, 0, 0, 2), cube(1, 0, 0, 2)}, 0, 1},
		{"the last two", []api.Box{cube(9, 0, 0, 1), cube(0, 0, 0, 2), cube(1, 0, 0, 2)}, 1, 2},
		{"the first and the last", []api.Box{cube(0, 0, 0, 2), cube(9, 0, 0, 1), cube(1, 0, 0, 2)}, 0, 2},
		{"by the first one's number", []api.Box{cube(0, 0, 0, 2), cube(5, 0, 0, 2), cube(6, 0, 0, 2), cube(1, 0, 0, 2)}, 0, 3},
		{"then by the second's", []api.Box{cube(0, 0, 0, 9), cube(9, 0, 0, 1), cube(1, 0, 0, 2), cube(1, 0, 0, 2)}, 0, 2},
		{"flat ones alike", []api.Box{cube(0, 0, 0, 0), cube(0, 0, 0, 0)}, -1, -1},
	} {
		if i, j, e := space.Apart(c.l); i != c.i || j != c.j || e != api.OK {
			t.Errorf("%s: %d %d %v", c.name, i, j, e)
		}
	}
}

// P4.2: Apart, at many lists: by trying all pairs.
func TestApartOfMany(t *testing.T) {
	d := die(5)
	for range 3000 {
		l := d.boxes()
		i, j := pair(l)
		if a, b, e := space.Apart(l); a != i || b != j || e != api.OK {
			t.Fatalf("Apart(%v): %d %d %v", l, a, b, e)
		}
	}
}

func pair(l []api.Box) (int, int) {
	for i := range l {
		for j := i + 1; j < len(l); j++ {
			if meet(l[i], l[j]) {
				return i, j
			}
		}
	}
	return -1, -1
}

// P4.3: Safe.
func TestSafe(t *testing.T) {
	a := cube(0, 0, 0, 2)
	for _, c := range []struct {
		name string
		l    []api.Box
		a    api.Box
		by   api.Point
		want int
	}{
		{"nothing there", nil, a, at(9, 9, 0), 0},
		{"on the way along X", []api.Box{cube(5, 0, 0, 3)}, a, at(9, 0, 0), 3},
		{"on the way back along X", []api.Box{cube(-5, 0, 0, 3)}, a, at(-9, 0, 0), 3},
		{"on the way along Y", []api.Box{cube(0, 5, 0, 3)}, a, at(0, 9, 0), 3},
		{"on the way back along Y", []api.Box{cube(0, -5, 0, 3)}, a, at(0, -9, 0), 3},
		{"X first, then Y", []api.Box{cube(9, 5, 0, 4)}, a, at(9, 9, 0), 4},
		{"not Y first", []api.Box{cube(0, 5, 0, 4)}, a, at(9, 9, 0), 0},
		{"not across the corner", []api.Box{cube(4, 4, 0, 3)}, a, at(9, 9, 0), 0},
		{"behind where it stops", []api.Box{cube(11, 0, 0, 3)}, a, at(9, 0, 0), 0},
		{"just where it stops", []api.Box{cube(10, 0, 0, 3)}, a, at(9, 0, 0), 3},
		{"beside the way", []api.Box{cube(5, 2, 0, 3)}, a, at(9, 0, 0), 0},
		{"where it stands", []api.Box{cube(1, 1, 1, 3)}, a, at(0, 0, 0), 4},
		{"where it stands, and goes on", []api.Box{cube(1, 1, 1, 3)}, a, at(9, 0, 0), 4},
		{"Z does not count", []api.Box{cube(0, 0, 4, 3)}, a, at(0, 0, 9), 0},
		{"Z does not help", []api.Box{cube(5, 0, 0, 3)}, a, at(9, 0, 5), 3},
		{"below a bridge", []api.Box{cube(5, 0, 2, 3)}, a, at(9, 0, 0), 0},
		{"above all", []api.Box{cube(5, 0, -3, 3)}, a, at(9, 0, 0), 0},
		{"between two", []api.Box{box(5, 0, 0, 6, 2, 3), box(5, 0, 5, 6, 2, 9)}, a, at(9, 0, 0), 3},
		{"too narrow between two", []api.Box{box(5, 0, 0, 6, 2, 3), box(5, 0, 4, 6, 2, 9)}, a, at(9, 0, 0), 9},
		{"too narrow, told the other way", []api.Box{box(5, 0, 4, 6, 2, 9), box(5, 0, 0, 6, 2, 3)}, a, at(9, 0, 0), 9},
		{"the higher of both ways", []api.Box{cube(5, 0, 0, 3), cube(9, 5, 0, 7)}, a, at(9, 9, 0), 7},
		{"a gap on one way that the other has not", []api.Box{cube(5, 0, 0, 3), box(9, 5, 1, 10, 6, 6)}, a, at(9, 9, 0), 6},
		{"from below the ground", []api.Box{cube(5, 0, 0, 3)}, cube(0, 0, -1, 2), at(9, 0, 0), 4},
		{"a high box need not begin low", []api.Box{box(5, 0, 7, 6, 2, 8)}, box(0, 0, 2, 2, 2, 9), at(9, 0, 0), 6},
		{"a sheet that goes", []api.Box{cube(5, 0, 0, 3)}, box(0, 0, 1, 0, 2, 1), at(9, 0, 0), 2},
		{"two sheets, the one through the other", []api.Box{box(5, 0, 0, 5, 2, 3)}, box(0, 0, 0, 0, 2, 3), at(9, 0, 0), 3},
		{"from end to end", []api.Box{box(-far, -far, -far, far, far, far-2)}, cube(-far, -far, -far, 2), at(far, far, 0), 2*far - 2},
	} {
		if got, e := space.Safe(c.l, c.a, c.by); got != c.want || e != api.OK {
			t.Errorf("%s: %d %v", c.name, got, e)
		}
	}
}

// P4.3: ErrRange: one of the moved boxes, or the raised one, would be too far.
func TestSafeTooFar(t *testing.T) {
	a := cube(0, 0, 0, 2)
	for _, c := range []struct {
		name string
		l    []api.Box
		a    api.Box
		by   api.Point
		want int
		e    api.Errno
	}{
		{"X, just not", nil, a, at(far-2, 0, 0), 0, api.OK},
		{"X", nil, a, at(far-1, 0, 0), 0, api.ErrRange},
		{"X, below", nil, a, at(-far, 0, 0), 0, api.OK},
		{"X, below by one", nil, cube(-1, 0, 0, 2), at(-far, 0, 0), 0, api.ErrRange},
		{"Y, just not", nil, a, at(0, far-2, 0), 0, api.OK},
		{"Y", nil, a, at(0, far-1, 0), 0, api.ErrRange},
		{"Y, below by one", nil, cube(0, -1, 0, 2), at(0, -far, 0), 0, api.ErrRange},
		{"X too far, Y not", nil, a, at(far-1, 1, 0), 0, api.ErrRange},
		{"Z does not count", nil, a, at(0, 0, far), 0, api.OK},
		{"Z does not count below", nil, cube(0, 0, -5, 1), at(0, 0, -far), 0, api.OK},
		{"raised, just not", []api.Box{box(0, 0, 0, 2, 2, far-2)}, a, at(0, 0, 0), far - 2, api.OK},
		{"raised", []api.Box{box(0, 0, 0, 2, 2, far-1)}, a, at(0, 0, 0), 0, api.ErrRange},
		{"raised to the top", []api.Box{box(0, 0, 0, 2, 2, far)}, a, at(0, 0, 0), 0, api.ErrRange},
		{"a sheet at the top", []api.Box{box(0, 0, 0, 2, 2, far)}, box(0, 0, 1, 2, 2, 1), at(0, 0, 0), far - 1, api.OK},
		{"high, but beside", []api.Box{box(3, 0, 0, 4, 2, far)}, a, at(0, 5, 0), 0, api.OK},
		{"too far, and something there", []api.Box{a}, a, at(far-1, 0, 0), 0, api.ErrRange},
	} {
		if got, e := space.Safe(c.l, c.a, c.by); got != c.want || e != c.e {
			t.Errorf("%s: %d %v", c.name, got, e)
		}
	}
}

// P4.3: Safe, at many lists: by trying each height, from 0 on.
func TestSafeOfMany(t *testing.T) {
	d := die(6)
	raised := 0
	for range 5000 {
		l, a, by := d.boxes(), d.box(), at(d.n(11)-5, d.n(11)-5, d.n(11)-5)
		want := 0
		for ; !isFree(l, shift(a, 0, 0, want), by); want++ {
		}
		got, e := space.Safe(l, a, by)
		if got != want || e != api.OK {
			t.Fatalf("Safe(%v, %v, %v): %d %v, not %d", l, a, by, got, e, want)
		}
		isTop := func(b api.Box) bool { return got == b.High.Z-a.Low.Z }
		if got != 0 && !slices.ContainsFunc(l, isTop) {
			t.Fatalf("Safe(%v, %v, %v): %d is no top", l, a, by, got)
		}
		if got > 0 {
			raised++
		}
	}
	if raised < 500 {
		t.Error("raised just", raised, "times")
	}
}

// isFree: do both ways meet nothing?
func isFree(l []api.Box, a api.Box, by api.Point) bool {
	corner := shift(a, by.X, 0, 0)
	end := shift(corner, 0, by.Y, 0)
	return !slices.ContainsFunc(l, func(b api.Box) bool {
		return meet(around(a, corner), b) || meet(around(corner, end), b)
	})
}

// What is handed in stays, its spare room too.
func TestListsStay(t *testing.T) {
	full := []api.Box{cube(0, 0, 0, 2), cube(1, 0, 0, 2), cube(7, 7, 7, 1), cube(8, 8, 8, 1)}
	before := slices.Clone(full)
	l := full[:2]
	space.First(l, full[0])
	space.Safe(l, full[0], at(3, 4, 0))
	space.Apart(l)
	if !slices.Equal(full, before) {
		t.Error(full)
	}
}
