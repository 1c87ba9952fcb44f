package heat_test

import (
	"math/big"
	"slices"
	"testing"

	"workcell/api"
	"workcell/heat"
)

// slowTick: what goes is told by big numbers, and its sign apart.
func slowTick(h api.Hot, n int, on bool) int {
	above, goes := big.NewInt(int64(n-h.Around)), new(big.Int)
	goes.Mul(goes.Abs(above), big.NewInt(int64(h.Loss))).Rsh(goes, 10)
	next := n - above.Sign()*int(goes.Int64())
	if on {
		next += h.Gain
	}
	if next > h.Most {
		next = h.Most
	}
	if next < 0 {
		next = 0
	}
	return next
}

// slowRest: tick by tick, until nothing changes.
func slowRest(h api.Hot, on bool) int {
	last := -1
	now := 0
	for now != last {
		last, now = now, slowTick(h, now, on)
	}
	return now
}

// slowBang: whether it is on is told of all heats ahead of a tick, the last one that is not between them.
func slowBang(h api.Hot, n, target, band, ticks int) []int {
	all := []int{n}
	for len(all) <= ticks {
		on := false
		for _, x := range slices.Backward(all) {
			if gap := x - target; gap > band || -gap > band {
				on = gap < 0
				break
			}
		}
		all = append(all, slowTick(h, all[len(all)-1], on))
	}
	return all[1:]
}

// slowHold: the first stretch of all heats that is there, whole.
func slowHold(h api.Hot, n, target, band, need, most int) answer {
	all := append([]int{n}, slowBang(h, n, target, band, most)...)
	for used := need; used <= most; used++ {
		isThere := true
		for _, x := range all[used-need+1 : used+1] {
			isThere = isThere && max(x-target, target-x) <= band
		}
		if isThere {
			return answer{used, all[used], api.OK}
		}
	}
	return answer{most, all[most], api.ErrFault}
}

// held against the slow ones: all calls.
func held(t *testing.T, h api.Hot, a asked) {
	t.Helper()
	for _, on := range []bool{false, true} {
		ticks(t, h, a.t, on, slowTick(h, a.t, on))
		rests(t, h, on, slowRest(h, on))
	}
	bangs(t, h, a.t, a.target, a.band, slowBang(h, a.t, a.target, a.band, a.ticks)...)
	holds(t, h, a.t, a.target, a.band, a.need, a.most, slowHold(h, a.t, a.target, a.band, a.need, a.most))
}

// wants of a plate: heats that it comes to, and others.
func (d *die) wants(h api.Hot) asked {
	near := func() int { return pick(d, d.n(h.Most+1), d.n(h.Most+1), h.Around, h.Most, d.n(hot+1)) }
	return asked{near(), near(), pick(d, 0, d.n(10), d.n(min(h.Most/4, count)+1), d.n(count+1)), d.n(40), d.n(pick(d, 3, 6, 30)), d.n(60)}
}

// P19.1, P19.2, P19.3: drawn plates.
func TestDrawn(t *testing.T) {
	d := die(19)
	for range 3000 {
		h := d.drawn()
		held(t, h, d.wants(h))
	}
}

// P19.1: no heat is above Most, or below 0; warmer stays warmer; a plate that is on is never colder than one that is off.
func TestWhatComesOfIt(t *testing.T) {
	d := die(20)
	for range 5000 {
		h := d.drawn()
		cold := d.n(pick(&d, h.Most+1, hot+1))
		warm := cold + pick(&d, 0, 1, d.n(hot-cold+1))
		if warm > hot {
			continue
		}
		for _, on := range []bool{false, true} {
			low, high := tick(t, h, cold, on), tick(t, h, warm, on)
			if low < 0 || low > high || high > h.Most {
				t.Errorf("Tick(%v, %v): %d and %d become %d and %d", h, on, cold, warm, low, high)
			}
		}
		if off, on := tick(t, h, cold, false), tick(t, h, cold, true); off > on {
			t.Errorf("Tick(%v, %d): %d when it is off, %d when it is on", h, cold, off, on)
		}
	}
}

// P19.1: of plates that get warm slowly, where ticks lead.
func TestSlowRest(t *testing.T) {
	d := die(21)
	for range 20 {
		h := of(1+d.n(3), d.n(3), d.n(hot/2), hot-d.n(1000))
		rests(t, h, true, slowRest(h, true))
		rests(t, h, false, slowRest(h, false))
	}
}

// P19.3: many ticks: as many as Tick takes, one by one.
func TestLongHold(t *testing.T) {
	d := die(22)
	for range 30 {
		h := of(1+d.n(3), d.n(2), d.n(hot/2), hot)
		target, band, need := h.Around+d.n(90000), d.n(5), 1+d.n(3)
		now, on, used, row := h.Around, false, 0, 0
		for used < count && row < need {
			on = now < target-band || on && now <= target+band
			now = tick(t, h, now, on)
			used, row = used+1, row+1
			if now < target-band || now > target+band {
				row = 0
			}
		}
		e := api.OK
		if row < need {
			e = api.ErrFault
		}
		holds(t, h, h.Around, target, band, need, count, answer{used, now, e})
	}
}

// FuzzHeat: at all numbers: what may be is as it should be, and all else is refused.
func FuzzHeat(f *testing.F) {
	f.Add(100, 0, 0, 1000, 0, 500, 5, 20, 2, 50)
	f.Add(0, 0, 0, 0, 0, 0, 0, 0, 0, 0)
	f.Add(gains, half, hot, hot, hot, hot, count, long, count, count)
	f.Add(30, 256, 0, 1000, 100, 60, 10, 50, 2, 50)
	f.Add(least, most, least, most, least, most, least, most, least, most)
	f.Fuzz(func(t *testing.T, gain, loss, around, top, n, target, band, ticks, need, greatest int) {
		h, a := of(gain, loss, around, top), asked{n, target, band, ticks, need, greatest}
		in := func(x, top int) bool { return x >= 0 && x <= top }
		if !in(gain, gains) || !in(loss, half) || !in(top, hot) || !in(around, top) || !in(n, hot) || !in(target, hot) {
			refusesBang(t, h, a, api.ErrRange)
			refusesHold(t, h, a, api.ErrRange)
			return
		}
		if !in(band, count) || !in(ticks, long) {
			refusesBang(t, h, a, api.ErrCount)
		}
		if !in(band, count) || !in(need, count) || !in(greatest, count) {
			refusesHold(t, h, a, api.ErrCount)
			return
		}
		a.ticks, a.need, a.most = max(ticks, 0)%200, need%200, greatest%200
		held(t, h, a)
	})
}

// P19.1: Rest of the slowest plate does not go tick by tick through all heats, so that it may be asked often.
func TestRestOften(t *testing.T) {
	for i := range 20000 {
		top := hot - i
		if n, e := heat.Rest(of(1, 0, 0, top), true); n != top || e != api.OK {
			t.Fatalf("Rest up to %d: %d, %v", top, n, e)
		}
	}
}
