package path_test

import (
	"fmt"
	"slices"
	"testing"

	"workcell/api"
	"workcell/path"
)

// deck that is drawn: often crowded.
func (d *die) deck() []api.Seat {
	var l []api.Seat
	for slot := 1; slot <= api.Slots; slot++ {
		if d.n(3) > 0 {
			l = append(l, seat(slot, pick(d, 10, 60000, api.SlotWidth), pick(d, 10, 30000, api.SlotLength), pick(d, 10, 14000, 40000, 50000, api.MaxWare)))
		}
	}
	return l
}

// tool that is drawn: often flat.
func (d *die) tool() api.Box {
	side := func() int { return pick(d, 0, 0, 10, 2500, 2501, 20000) }
	return box(-side(), -side(), -side(), side(), side(), side())
}

// point that is drawn, often at a side of a ware.
func (d *die) point() api.Point {
	x := d.n(3)*137500 + pick(d, 0, 10, 60000, api.SlotWidth, 135000, -5, d.n(140000))
	y := d.n(4)*95500 + pick(d, 0, 10, 30000, api.SlotLength, 93000, -5, d.n(90000))
	return at(x, y, pick(d, 0, 5, 5, 13999, 14000, 40000, 50000, -3, d.n(250000)-40000))
}

// way that is drawn: each point one number off the one ahead, or none.
func (d *die) way(first api.Point, count int) []api.Point {
	way := []api.Point{first}
	for len(way) < count {
		p, q := way[len(way)-1], d.point()
		way = append(way, pick(d, at(q.X, p.Y, p.Z), at(p.X, q.Y, p.Z), at(p.X, p.Y, q.Z), p))
	}
	return way
}

// TestDrawnPlans: drawn points, held against what tries all heights (P13.2), and what comes of it.
func TestDrawnPlans(t *testing.T) {
	d := die(13)
	found, straight := 0, 0
	for i := range 20000 {
		l, tool, from, to := d.deck(), d.tool(), d.point(), d.point()
		way, e := path.Plan(l, tool, from, to)
		want, f := planOf(l, tool, from, to)
		if !slices.Equal(way, want) || e != f {
			t.Fatalf("%d: %v %v from %v to %v: %v %v, should be %v %v", i, l, tool, from, to, way, e, want, f)
		}
		if e != api.OK {
			continue
		}
		found++
		if n, e := path.Check(l, tool, way); n != -1 || e != api.OK {
			t.Fatalf("%d: planned, but not free: %v at %d, %v", i, way, n, e)
		}
		long, _ := path.Long(way)
		least, _ := path.Long([]api.Point{from, to})
		flat, _ := path.Long([]api.Point{at(from.X, from.Y, 0), at(to.X, to.Y, 0)})
		top := max(from.Z, to.Z, api.MaxWare-tool.Low.Z)
		if long > flat+2*(top-min(from.Z, to.Z)) || long < least {
			t.Fatalf("%d: from %v to %v: %d, at least %d", i, from, to, long, least)
		}
		if long == least {
			straight++
		}
		if way, e = path.Plan(nil, tool, from, to); lengthOf(way) != least || e != api.OK {
			t.Fatalf("%d: where nothing stands: %v %v", i, way, e)
		}
	}
	if found < 5000 || found > 15000 || straight < 500 || straight > found-500 {
		t.Errorf("%d found, %d of them straight: the points tell too little", found, straight)
	}
}

// TestDrawnChecks: drawn ways, held against sides' numbers (P13.1).
func TestDrawnChecks(t *testing.T) {
	d := die(4)
	seen := make([]int, 11)
	for i := range 20000 {
		l, tool := d.deck(), d.tool()
		way := d.way(d.point(), 1+d.n(10))
		n, e := path.Check(l, tool, way)
		if want := wrongOf(l, tool, way); n != want || e != api.OK {
			t.Fatalf("%d: %v %v along %v: %v %v, should be %v", i, l, tool, way, n, e, want)
		}
		seen[n+1]++
	}
	if slices.Min(seen) < 3 {
		t.Errorf("seen %v: the ways tell too little", seen)
	}
}

// TestDrawnJoins: drawn ways, held against what lets points go one by one (P13.3).
func TestDrawnJoins(t *testing.T) {
	d := die(5)
	small := func(first api.Point, count int) []api.Point {
		way := []api.Point{first}
		for len(way) < count {
			p := way[len(way)-1]
			*pick(&d, &p.X, &p.Y, &p.Z, &p.X, &p.X) += d.n(5) - 2
			way = append(way, p)
		}
		return way
	}
	for i := range 20000 {
		a := small(at(0, 0, 0), 1+d.n(8))
		b := small(a[len(a)-1], 1+d.n(8))
		l, e := path.Join(a, b)
		if want := joinOf(a, b); !slices.Equal(l, want) || e != api.OK {
			t.Fatalf("%d: %v and %v: %v %v, should be %v", i, a, b, l, e, want)
		}
		x, _ := path.Long(a)
		y, _ := path.Long(b)
		if z, e := path.Long(l); z != x+y || x != lengthOf(a) || e != api.OK {
			t.Fatalf("%d: %v and %v: %d and %d come to %d", i, a, b, x, y, z)
		}
		again, e := path.Join(l, l[len(l)-1:])
		if !slices.Equal(again, l) || e != api.OK {
			t.Fatalf("%d: joined again: %v %v, was %v", i, again, e, l)
		}
	}
}

// TestMemory: nothing that is handed in is changed or kept, and no answer shares anything (P13.1 to P13.3).
func TestMemory(t *testing.T) {
	mark := at(-7, -7, -7)
	seats := roomy(table(), api.Seat{Name: "spare"})
	for _, given := range [][2][]api.Point{
		{{at(0, 0, 60000)}, {at(0, 0, 60000)}},
		{{at(0, 0, 60000), at(9, 0, 60000)}, {at(9, 0, 60000)}},
		{{at(0, 0, 60000)}, {at(0, 0, 60000), at(9, 0, 60000), at(9, 9, 60000)}},
		{zigzag(9), {at(4, 4, 0), at(4, 4, 0), at(4, 5, 0)}},
	} {
		a, b := roomy(given[0], mark), roomy(given[1], mark)
		before := fmt.Sprint(a[:cap(a)], b[:cap(b)], seats[:cap(seats)])
		all := func() ([]api.Point, []api.Point) {
			path.Check(seats, dot, a)
			path.Long(b)
			p, e := path.Plan(seats, dot, at(-5, 5, 5), at(70000, 70000, 5))
			j, f := path.Join(a, b)
			if e != api.OK || f != api.OK {
				t.Error(e, f)
			}
			return p, j
		}
		plan, join := all()
		want := fmt.Sprint(plan, join)
		p, j := all()
		spoil(p, mark)
		spoil(j, mark)
		if now := fmt.Sprint(a[:cap(a)], b[:cap(b)], seats[:cap(seats)]); now != before {
			t.Errorf("handed in, and changed: %s, was %s", now, before)
		}
		spoil(a, mark)
		spoil(b, mark)
		if now := fmt.Sprint(plan, join); now != want {
			t.Errorf("shared: %s, was %s", now, want)
		}
	}
}

// FuzzPath: no numbers make a call panic; what is planned is free, and a way and back is twice as long.
func FuzzPath(f *testing.F) {
	f.Add(uint64(1), -5, 5, 5, 70000, 5, 5, 0, 0)
	f.Add(uint64(2), far, 0, 0, -far, far, far, -5, far)
	f.Add(uint64(3), 1<<62, -1<<63, 1<<63-1, 0, 0, 0, 1, -1)
	f.Fuzz(func(t *testing.T, drawn uint64, x, y, z, x2, y2, z2, low, high int) {
		d := die(drawn)
		l, from, to := d.deck(), at(x, y, z), at(x2, y2, z2)
		tool := box(low, low, low, high, high, high)
		path.Check(l, tool, []api.Point{from, to})
		path.Long([]api.Point{from, to})
		path.Join([]api.Point{from, to}, []api.Point{to, from})
		way, e := path.Plan(l, tool, from, to)
		if e != api.OK {
			if len(way) > 0 {
				t.Fatal("beside an error:", way, e)
			}
			return
		}
		if n, e := path.Check(l, tool, way); n != -1 || e != api.OK {
			t.Fatalf("%v is not free: %v %v", way, n, e)
		}
		back := slices.Clone(way)
		slices.Reverse(back)
		round, e := path.Join(way, back)
		once, _ := path.Long(way)
		if twice, f := path.Long(round); twice != 2*once || e != api.OK || f != api.OK {
			t.Fatalf("%v and back: %v %v %v", way, round, e, f)
		}
	})
}
