package firm_test

import (
	"math"
	"testing"

	"workcell/api"
	"workcell/firm"
)

// Greatest numbers of a rig, of its ramp, of its state.
const (
	far   = api.MaxPlace
	wide  = 100000
	much  = api.MaxVolume
	fast  = 100000000
	high  = 100000
	long  = api.MaxRamp
	late  = api.MaxTicks
	least = math.MinInt
	most  = math.MaxInt
)

// die: numbers that look drawn, the same each time.
type die uint64

func (d *die) n(most int) int {
	*d = *d*6364136223846793005 + 1442695040888963407
	return int(uint64(*d>>33) % uint64(most))
}

// pick one of some.
func pick[T any](d *die, some ...T) T { return some[d.n(len(some))] }

// at three numbers: a point.
func at(x, y, z int) api.Point { return api.Point{X: x, Y: y, Z: z} }

// of four numbers: a ramp.
func of(clock, first, most, rise int) api.Ramp {
	return api.Ramp{Clock: clock, First: first, Most: most, Rise: rise}
}

// even: a rig whose steps take 10 ticks each, of 2 micrometres.
func even() api.Rig {
	return api.Rig{Low: at(-20, -30, -5), High: at(100, 90, 40), Ramp: of(1000, 100, 100, 0), PerStep: 2, Most: 5000}
}

// with some change: a rig.
func with(change func(*api.Rig)) api.Rig {
	r := even()
	change(&r)
	return r
}

// homed at a place, with a tip or without, so many ticks behind the beginning.
func homed(p api.Point, tip bool, plug, ticks int) api.Firm {
	return api.Firm{Homed: true, At: p, Tip: tip, Plug: plug, Ticks: ticks}
}

// Commands.
func home() api.Command          { return api.Command{Kind: api.Home} }
func to(x, y, z int) api.Command { return api.Command{Kind: api.Go, X: x, Y: y, Z: z} }
func plug(value int) api.Command { return api.Command{Kind: api.Plug, Value: value} }
func grab() api.Command          { return api.Command{Kind: api.Grab} }
func eject() api.Command         { return api.Command{Kind: api.Eject} }
func cook(value int) api.Command { return api.Command{Kind: api.Cook, Value: value} }
func rest(value int) api.Command { return api.Command{Kind: api.Rest, Value: value} }
func turn(value int) api.Command { return api.Command{Kind: api.Turn, Value: value} }

// wrongRigs: none of them is one.
func wrongRigs() []api.Rig {
	l := []api.Rig{{}}
	for _, change := range []func(*api.Rig, int){
		func(r *api.Rig, n int) { r.Low.X = n },
		func(r *api.Rig, n int) { r.Low.Y = n },
		func(r *api.Rig, n int) { r.Low.Z = n },
		func(r *api.Rig, n int) { r.High.X = -n },
		func(r *api.Rig, n int) { r.High.Y = -n },
		func(r *api.Rig, n int) { r.High.Z = -n },
	} {
		for _, n := range []int{1, 2, 500, far, far + 1, most, -far - 1, least, least + 1} {
			l = append(l, with(func(r *api.Rig) { change(r, n) }))
		}
	}
	for _, n := range []int{0, -1, wide + 1, least, most} {
		l = append(l, with(func(r *api.Rig) { r.PerStep = n }))
	}
	for _, n := range []int{0, -1, much + 1, least, most} {
		l = append(l, with(func(r *api.Rig) { r.Most = n }))
	}
	for _, bad := range []api.Ramp{
		{}, of(0, 1, 1, 0), of(fast+1, 1, 1, 0), of(10, 0, 1, 0), of(10, 5, 4, 0), of(10, 1, 11, 0), of(10, 11, 11, 0),
		of(10, 1, 0, 0), of(10, 1, 1, -1), of(10, 1, 1, high+1), of(most, 1, 1, 0), of(least, 1, 1, 0), of(10, least, 5, 0), of(10, 1, 1, least),
	} {
		l = append(l, with(func(r *api.Rig) { r.Ramp = bad }))
	}
	return append(l, with(func(r *api.Rig) { r.Low, r.High = at(1, 1, 1), at(5, 5, 5) }), with(func(r *api.Rig) { r.Low, r.High = at(-5, -5, -5), at(-1, -1, -1) }))
}

// edgeRigs: all of them are, just so.
func edgeRigs() []api.Rig {
	zero := api.Point{}
	return []api.Rig{
		even(),
		with(func(r *api.Rig) { r.Low, r.High = zero, zero }),
		with(func(r *api.Rig) { r.Low, r.High = zero, at(1, 0, 2) }),
		with(func(r *api.Rig) { r.Low, r.High = at(0, -1, -2), zero }),
		with(func(r *api.Rig) { r.Low, r.High = at(-far, -far, -far), at(far, far, far) }),
		with(func(r *api.Rig) { r.PerStep = 1 }),
		with(func(r *api.Rig) { r.PerStep = wide }),
		with(func(r *api.Rig) { r.Most = 1 }),
		with(func(r *api.Rig) { r.Most = much }),
		with(func(r *api.Rig) { r.Ramp = of(1, 1, 1, 0) }),
		with(func(r *api.Rig) { r.Ramp = of(fast, fast, fast, high) }),
		with(func(r *api.Rig) { r.Ramp = of(fast, 1, fast, 1) }),
	}
}

// does: does a command make this of a state?
func does(t *testing.T, r api.Rig, f api.Firm, c api.Command, want api.Firm) {
	t.Helper()
	got, e := firm.Do(r, f, c)
	if got != want || e != api.OK {
		t.Errorf("Do(%v, %v, %v): %v, %v; wanted %v", r, f, c, got, e, want)
	}
	if !firm.May(r, got) {
		t.Errorf("Do(%v, %v, %v): %v may not be", r, f, c, got)
	}
}

// refuses: is a command refused so, with nothing beside it?
func refuses(t *testing.T, r api.Rig, f api.Firm, c api.Command, want api.Errno) {
	t.Helper()
	if got, e := firm.Do(r, f, c); got != (api.Firm{}) || e != want {
		t.Errorf("Do(%v, %v, %v): %v, %v; wanted %v", r, f, c, got, e, want)
	}
}

// runs: do commands come to this?
func runs(t *testing.T, r api.Rig, l []api.Command, want api.Firm, n int, wrong api.Errno) {
	t.Helper()
	if got, k, e := firm.Run(r, l); got != want || k != n || e != wrong {
		t.Errorf("Run(%v, %.300v): %v, %d, %v; wanted %v, %d, %v", r, l, got, k, e, want, n, wrong)
	}
}

// needs: does a move take so many ticks, there and back?
func needs(t *testing.T, r api.Rig, from, to api.Point, want int) {
	t.Helper()
	for _, way := range [][2]api.Point{{from, to}, {to, from}} {
		if got, e := firm.Need(r, way[0], way[1]); got != want || e != api.OK {
			t.Errorf("Need(%v, %v, %v): %d, %v; wanted %d", r, way[0], way[1], got, e, want)
		}
	}
}
