package mean_test

import (
	"maps"
	"slices"

	"workcell/api"
)

// oracle: a state told another way: of each fluid each unit of volume is a label of its own.
type oracle struct {
	most    map[api.Place]int // of each well on the deck; below 0 on no plate
	tips    int
	tipMost int

	wells   map[api.Place][]string
	tip     bool
	held    []string
	touched []string
	used    int
	heat    int
	clock   int
}

func newOracle(d []api.Seat) *oracle {
	o := &oracle{most: map[api.Place]int{}, wells: map[api.Place][]string{}}
	least := api.Slots + 1
	for _, s := range d {
		for row := range s.Ware.Rows {
			for column := range s.Ware.Columns {
				o.most[place(s.Slot, row, column)] = -1
				if s.Ware.Kind == api.Plate {
					o.most[place(s.Slot, row, column)] = s.Ware.Capacity
				}
			}
		}
		if s.Ware.Kind == api.Rack {
			o.tips += s.Ware.Rows * s.Ware.Columns
			if s.Slot < least {
				least, o.tipMost = s.Slot, s.Ware.Capacity
			}
		}
	}
	return o
}

// gathered: the plain form of a fluid.
func gathered(units []string) []api.Parcel {
	var f []api.Parcel
	for i, label := range units {
		if i == 0 || units[i-1] != label {
			f = append(f, api.Parcel{Label: label})
		}
		f[len(f)-1].Volume++
	}
	return f
}

// state of the oracle, all places gone over in order.
func (o *oracle) state() api.State {
	s := api.State{Tip: o.tip, Held: gathered(o.held), Touched: o.touched, Used: o.used, Heat: o.heat, Clock: o.clock}
	for slot := 1; slot <= api.Slots; slot++ {
		for column := range api.MaxColumns {
			for row := range api.MaxRows {
				if p := place(slot, row, column); len(o.wells[p]) > 0 {
					s.Wells = append(s.Wells, api.Filled{Place: p, Fluid: gathered(o.wells[p])})
				}
			}
		}
	}
	return s
}

// everything: all units of volume that there are.
func (o *oracle) everything() int {
	sum := len(o.held)
	for units := range maps.Values(o.wells) {
		sum += len(units)
	}
	return sum
}

// first of the errors whose words hold.
func first(words ...any) api.Errno {
	for i := 0; i < len(words); i += 2 {
		if words[i].(bool) {
			return words[i+1].(api.Errno)
		}
	}
	return api.OK
}

// apply an action, whose label is one if it has one, and whose volume is small.
func (o *oracle) apply(a api.Action) api.Errno {
	switch a.Kind {
	case api.Fill, api.Draw, api.Put:
		most, there := o.most[a.Place]
		if e := first(!there, api.ErrNone, most < 0, api.ErrKind, a.Volume < 1 || a.Volume > api.MaxVolume, api.ErrRange); e != api.OK {
			return e
		}
		return o.liquid(a)
	case api.Tip:
		e := first(o.tip, api.ErrTip, o.used == o.tips, api.ErrEnd)
		if e == api.OK {
			o.tip = true
			o.used++
		}
		return e
	case api.Drop:
		e := first(!o.tip, api.ErrTip)
		o.tip, o.held, o.touched = false, nil, nil
		return e
	case api.Warm:
		e := first(a.Value < 0 || a.Value > api.MaxVolume, api.ErrRange)
		if e == api.OK {
			o.heat = a.Value
		}
		return e
	case api.Hold, api.Wait, api.Shake:
		turns := a.Kind == api.Shake && (a.Value < 0 || a.Value > api.MaxVolume)
		e := first(turns || a.Time < 0 || a.Time > api.MaxVolume, api.ErrRange, o.clock+a.Time > api.MaxTime, api.ErrSize)
		if e == api.OK {
			o.clock += a.Time
		}
		return e
	}
	return api.ErrKind
}

// liquid that is filled, drawn or put.
func (o *oracle) liquid(a api.Action) api.Errno {
	well, n := o.wells[a.Place], a.Volume
	var into []string
	e := api.OK
	switch a.Kind {
	case api.Fill:
		into = slices.Concat(well, slices.Repeat([]string{a.Label}, n))
		e = o.fits(into, o.most[a.Place])
		if e == api.OK {
			o.wells[a.Place] = into
		}
	case api.Draw:
		strange := slices.ContainsFunc(o.touched, func(label string) bool { return !slices.Contains(well, label) })
		e = first(!o.tip, api.ErrTip, len(well) < n, api.ErrDry, strange, api.ErrDirty)
		if e == api.OK {
			into = slices.Concat(o.held, well[:n])
			e = o.fits(into, o.tipMost)
		}
		if e == api.OK {
			o.held, o.wells[a.Place] = into, well[n:]
			o.touched = slices.Concat(o.touched, well)
			slices.Sort(o.touched)
			o.touched = slices.Compact(o.touched)
		}
	case api.Put:
		e = first(!o.tip, api.ErrTip, len(o.held) < n, api.ErrDry)
		if e == api.OK {
			into = slices.Concat(well, o.held[:n])
			e = o.fits(into, o.most[a.Place])
		}
		if e == api.OK {
			o.wells[a.Place], o.held = into, o.held[n:]
		}
	}
	return e
}

// fits: what is wrong with so much in something that holds most.
func (o *oracle) fits(units []string, most int) api.Errno {
	return first(len(units) > most, api.ErrFull, len(gathered(units)) > api.MaxParcels, api.ErrCount)
}
