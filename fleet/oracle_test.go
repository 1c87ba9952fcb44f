package fleet_test

import (
	"slices"

	"workcell/api"
	"workcell/cell"
	"workcell/check"
	"workcell/deck"
	"workcell/elab"
	"workcell/firm"
	"workcell/mean"
	"workcell/tree"
)

// slowReport of a job, by the chapter's words; volumes are moved and ticks counted action by action, and command by
// command.
func slowReport(j api.Job, fuel int) api.Report {
	d, line, e := deck.Read(j.Deck)
	if e != api.OK {
		return api.Report{Stage: 1, Code: e, Line: line}
	}
	n, line, e := tree.Parse(j.Source)
	if e != api.OK {
		return api.Report{Stage: 2, Code: e, Line: line}
	}
	if line, e = check.Check(n, d); e != api.OK {
		return api.Report{Stage: 3, Code: e, Line: line}
	}
	l, line, e := elab.Run(n, d, fuel)
	if e != api.OK {
		return api.Report{Stage: 4, Code: e, Line: line}
	}
	r := api.Report{Stage: 5, Actions: len(l)}
	var s api.State
	for i, a := range l {
		if s, e = mean.Apply(d, s, a); e != api.OK {
			r.Code, r.Line = e, i
			return r
		}
	}
	r.Stage = 6
	hasTrash := slices.ContainsFunc(d, func(s api.Seat) bool { return s.Ware.Kind == api.Trash })
	if i := slices.IndexFunc(l, func(a api.Action) bool { return a.Kind == api.Drop }); i >= 0 && !hasTrash {
		r.Code, r.Line = api.ErrNone, i
		return r
	}
	// What may be puts just what it tells, and takes a tip a Tip.
	r.Stage, r.Tips = 7, s.Used
	for _, a := range l {
		if a.Kind == api.Put {
			r.Moved += a.Volume
		}
	}
	r.Ticks = slowTicks(d, l)
	return r
}

// slowTicks of actions that may be.
func slowTicks(d []api.Seat, l []api.Action) int {
	rig, _ := cell.Rig(d)
	commands, _, _ := cell.Compile(d, l)
	f, _ := firm.Start(rig)
	for _, c := range commands {
		f, _ = firm.Do(rig, f, c)
	}
	return f.Ticks
}

// slowBest: one report after the other, each time the one ahead of which none belongs that is left.
func slowBest(l []api.Report) []int {
	var best []int
	for len(best) < len(l) {
		first := -1
		for i := range l {
			if !slices.Contains(best, i) && (first < 0 || isBetter(l[i], l[first])) {
				first = i
			}
		}
		best = append(best, first)
	}
	return best
}

// isBetter: does a report of a greater number belong ahead of the other one?
func isBetter(a, b api.Report) bool {
	if a.Stage != 7 || b.Stage != 7 {
		return a.Stage != b.Stage && (a.Stage == 7 || b.Stage != 7 && a.Stage > b.Stage)
	}
	if a.Ticks != b.Ticks {
		return a.Ticks < b.Ticks
	}
	return a.Tips < b.Tips
}
