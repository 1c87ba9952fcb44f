package fleet

import (
	"workcell/api"
	"workcell/cell"
	"workcell/check"
	"workcell/deck"
	"workcell/elab"
	"workcell/flow"
	"workcell/mean"
	"workcell/tree"
)

// done: the stage of a job behind its last one.
const done = 7

// stage of a job: the line, or the action's number, that it tells with an error.
type stage func(*work) (int, api.Errno)

// stages of a job, from the first one on.
func stages() [done - 1]stage {
	return [...]stage{(*work).read, (*work).parse, (*work).check, (*work).elaborate, (*work).mean, (*work).compile}
}

// work on a job: its report so far, and what its stages came to.
type work struct {
	api.Job
	api.Report
	fuel    int
	seats   []api.Seat
	program api.Node
	actions []api.Action
}

// report of a job.
func report(j api.Job, fuel int) api.Report {
	w := work{Job: j, fuel: fuel}
	for i, do := range stages() {
		if line, e := do(&w); e != api.OK {
			w.Stage, w.Code, w.Line = i+1, e, line
			return w.Report
		}
	}
	w.Stage = done
	w.Tips, w.Moved, _, _ = flow.Usage(w.actions) // no error comes: mean.Run took the actions
	return w.Report
}

func (w *work) read() (line int, e api.Errno) {
	w.seats, line, e = deck.Read(w.Deck)
	return line, e
}

func (w *work) parse() (line int, e api.Errno) {
	w.program, line, e = tree.Parse(w.Source)
	return line, e
}

func (w *work) check() (int, api.Errno) { return check.Check(w.program, w.seats) }

func (w *work) elaborate() (line int, e api.Errno) {
	w.actions, line, e = elab.Run(w.program, w.seats, w.fuel)
	w.Actions = len(w.actions) // none beside an error
	return line, e
}

func (w *work) mean() (int, api.Errno) {
	_, number, e := mean.Run(w.seats, w.actions)
	return number, e
}

// compile the actions. That the machine takes too long is told of no action.
func (w *work) compile() (number int, e api.Errno) {
	if _, number, e = cell.Compile(w.seats, w.actions); e != api.OK {
		return number, e
	}
	w.Ticks, e = cell.Ticks(w.seats, w.actions)
	return 0, e
}
