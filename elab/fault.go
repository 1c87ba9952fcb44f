package elab

import (
	"errors"

	"workcell/api"
)

// fault: an error with the line of the node at which it is found.
type fault struct {
	api.Errno
	line int
}

// at a node: the error of that number, if it is one.
func at(n api.Node, e api.Errno) error {
	if e == api.OK {
		return nil
	}
	return fault{Errno: e, line: n.Line}
}

// told: an error's line and number, for whoever called.
func told(err error) (int, api.Errno) {
	var wrong fault
	if errors.As(err, &wrong) {
		return wrong.line, wrong.Errno
	}
	return 0, api.OK
}
