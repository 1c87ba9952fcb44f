package flow_test

import (
	"cmp"
	"slices"

	"workcell/api"
	"workcell/mean"
)

// droplet: 1 nl of a liquid: where it was drawn, and whether that well had something of the place that is asked for.
type droplet struct {
	from    api.Place
	reached bool
}

// walk a trace, unit by unit: told hears of each that is put.
func walk(l []api.Action, from api.Place, told func(d droplet, into api.Place)) {
	reached := map[api.Place]bool{from: true}
	var held []droplet
	hasTip := false
	for _, a := range l {
		counts := hasTip && a.Volume >= 1 && a.Volume <= api.MaxVolume
		switch {
		case a.Kind == api.Tip || a.Kind == api.Drop:
			hasTip, held = a.Kind == api.Tip, nil
		case a.Kind == api.Draw && counts:
			for range a.Volume {
				held = append(held, droplet{a.Place, reached[a.Place]})
			}
		case a.Kind == api.Put && counts:
			for range min(a.Volume, len(held)) {
				told(held[0], a.Place)
				reached[a.Place] = reached[a.Place] || held[0].reached
				held = held[1:]
			}
		}
	}
}

// ordered: by slots, columns, rows.
func ordered(p, q api.Place) int {
	return cmp.Or(p.Slot-q.Slot, p.Spot.Column-q.Spot.Column, p.Spot.Row-q.Spot.Row)
}

// pairsOf a trace, unit by unit.
func pairsOf(l []api.Action) []api.Pair {
	var pairs []api.Pair
	walk(l, api.Place{}, func(d droplet, into api.Place) {
		i := slices.IndexFunc(pairs, func(p api.Pair) bool { return p.From == d.from && p.Into == into })
		if i < 0 {
			i = len(pairs)
			pairs = append(pairs, api.Pair{From: d.from, Into: into})
		}
		pairs[i].Volume++
	})
	slices.SortFunc(pairs, func(a, b api.Pair) int { return cmp.Or(ordered(a.From, b.From), ordered(a.Into, b.Into)) })
	return pairs
}

// reachOf a place, unit by unit.
func reachOf(l []api.Action, from api.Place) []api.Place {
	places := []api.Place{from}
	walk(l, from, func(d droplet, into api.Place) {
		if d.reached && !slices.Contains(places, into) {
			places = append(places, into)
		}
	})
	slices.SortFunc(places, ordered)
	return places
}

// usageOf a trace, unit by unit.
func usageOf(l []api.Action) (tips, moved, time int) {
	walk(l, api.Place{}, func(droplet, api.Place) { moved++ })
	for _, a := range l {
		if a.Kind == api.Tip {
			tips++
		}
		if a.Time > 0 && (a.Kind == api.Hold || a.Kind == api.Wait || a.Kind == api.Shake) {
			time += a.Time
		}
	}
	return tips, moved, time
}

// hangs: does an action hang on one that is ahead of it?
func hangs(a, ahead api.Action) bool {
	both := func(kinds ...int) bool { return slices.Contains(kinds, a.Kind) && slices.Contains(kinds, ahead.Kind) }
	return both(api.Tip, api.Drop, api.Draw, api.Put) ||
		both(api.Fill, api.Draw, api.Put) && a.Place == ahead.Place ||
		both(api.Warm, api.Hold, api.Shake, api.Wait)
}

// levelsOf a trace, each action held against all ahead of it.
func levelsOf(l []api.Action) [][]int {
	var levels [][]int
	of := make([]int, len(l))
	for i, a := range l {
		for j := range i {
			if hangs(a, l[j]) {
				of[i] = max(of[i], of[j]+1)
			}
		}
		for len(levels) <= of[i] {
			levels = append(levels, nil)
		}
		levels[of[i]] = append(levels[of[i]], i)
	}
	return levels
}

// drawnFrom: places of Draws, up to a Drop; each once.
func drawnFrom(l []api.Action) []api.Place {
	var places []api.Place
	for _, a := range l {
		if a.Kind == api.Drop {
			break
		}
		if a.Kind == api.Draw && !slices.Contains(places, a.Place) {
			places = append(places, a.Place)
		}
	}
	return places
}

// savedOf a trace that may be: each change is tried by running all that is left.
func savedOf(d []api.Seat, l []api.Action) []api.Action {
	want, _, _ := mean.Run(d, l)
	l = slices.Clone(l)
	for i := 0; i+1 < len(l); i++ {
		if l[i].Kind != api.Drop || l[i+1].Kind != api.Tip {
			continue
		}
		begin := i
		for l[begin].Kind != api.Tip {
			begin--
		}
		one, other := drawnFrom(l[begin:i]), drawnFrom(l[i+2:])
		if len(one) != 1 || !slices.Equal(one, other) {
			continue
		}
		shorter := slices.Concat(l[:i], l[i+2:])
		if s, _, e := mean.Run(d, shorter); e == api.OK && sameEnd(s, want) {
			l = shorter
		}
	}
	return l
}

// sameEnd: are wells, heat and clock the same?
func sameEnd(a, b api.State) bool {
	return a.Heat == b.Heat && a.Clock == b.Clock && slices.EqualFunc(a.Wells, b.Wells, func(v, w api.Filled) bool {
		return v.Place == w.Place && slices.Equal(v.Fluid, w.Fluid)
	})
}
