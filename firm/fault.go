package firm

import (
	"errors"

	"workcell/api"
)

// What stands against a rig, a state, or a command that has its form.
var (
	errNoRig    = errors.New("there is no such rig")
	errNoState  = errors.New("there is no such state")
	errNotHomed = errors.New("where the machine is, is not known")
	errOutside  = errors.New("the machine may not go there")
	errNoTip    = errors.New("there is no tip")
	errTipThere = errors.New("there is a tip already")
	errTooFar   = errors.New("the plunger does not go so far")
	errTooLate  = errors.New("a run has no more ticks")
)

// numberOf an error, for whoever called; OK, if there is none.
func numberOf(err error) api.Errno {
	switch {
	case errors.Is(err, errNoRig):
		return api.ErrRange
	case errors.Is(err, errNoState):
		return api.ErrState
	case errors.Is(err, errNotHomed):
		return api.ErrOrder
	case errors.Is(err, errOutside):
		return api.ErrBlocked
	case errors.Is(err, errNoTip), errors.Is(err, errTipThere):
		return api.ErrTip
	case errors.Is(err, errTooFar):
		return api.ErrFull
	case errors.Is(err, errTooLate):
		return api.ErrSize
	}
	return api.OK
}
