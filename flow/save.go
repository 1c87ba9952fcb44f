package flow

import (
	"slices"

	"workcell/api"
	"workcell/mean"
)

// saver: a trace that may be, from which changes of the tip go: a Drop, and a Tip right behind it.
type saver struct {
	deck []api.Seat
	left []api.Action // the trace, without what went
	end  api.State    // to which it must come
	now  *bench       // as it is ahead of the change that is tried
}

// save what may go, from the trace's beginning on.
func (s *saver) save() {
	taken := 0 // the number of the last Tip
	for i := 0; i < len(s.left); i++ {
		if s.left[i].Kind == api.Tip {
			taken = i
		}
		if isChange(s.left[i:]) && sameSource(s.left[taken:i], untilDrop(s.left[i+2:])) && s.mayGo(i) {
			s.left = slices.Delete(s.left, i, i+2) // behind it something is left: a Draw at least
		}
		s.now.do(s.left[i])
	}
}

// mayGo: does the trace come to the same end without the change at that number?
func (s *saver) mayGo(i int) bool {
	next := untilDrop(s.left[i+2:])
	changed, kept := s.now.copied(), s.now.copied()
	changed.do(s.left[i : i+2+len(next)]...)
	if kept.do(next...) != api.OK {
		return false
	}
	// Here the tip goes, or all is at its end: from wells that are alike all goes on as it did, with one tip less used.
	if kept.hasWellsOf(changed) {
		return true
	}
	// Wells that are not alike may still become so.
	end, _, e := mean.Run(s.deck, slices.Concat(s.left[:i], s.left[i+2:]))
	return e == api.OK && isAlike(end, s.end)
}

// isChange: does a trace begin with one?
func isChange(l []api.Action) bool {
	return len(l) > 1 && l[0].Kind == api.Drop && l[1].Kind == api.Tip
}

// untilDrop: what is done ahead of the first Drop.
func untilDrop(l []api.Action) []api.Action {
	i := slices.IndexFunc(l, func(a api.Action) bool { return a.Kind == api.Drop })
	if i < 0 {
		return l
	}
	return l[:i]
}

// sameSource: does each of two tips draw from one place alone, and both from the same?
func sameSource(one, other []api.Action) bool {
	p, has := source(one)
	q, hasToo := source(other)
	return has && hasToo && p == q
}

// source: the place from which actions draw, if it is just one.
func source(l []api.Action) (from api.Place, just bool) {
	for _, a := range l {
		if a.Kind != api.Draw {
			continue
		}
		if just && a.Place != from {
			return api.Place{}, false
		}
		from, just = a.Place, true
	}
	return from, just
}

// isAlike: are all wells, the heat and the clock the same?
func isAlike(a, b api.State) bool {
	return slices.EqualFunc(a.Wells, b.Wells, sameWell) && a.Heat == b.Heat && a.Clock == b.Clock
}

func sameWell(a, b api.Filled) bool {
	return a.Place == b.Place && slices.Equal(a.Fluid, b.Fluid)
}
