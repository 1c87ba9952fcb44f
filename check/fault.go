package check

import "workcell/api"

// fault: what is wrong with a tree, and on which line.
type fault struct {
	line int
	code api.Errno
}

// refuse a tree at one of its nodes: whoever finds a fault, however deep, gives up by a panic.
func refuse(at api.Node, code api.Errno) {
	panic(fault{line: at.Line, code: code})
}

// tried: some work, and the fault at which it gave up.
func tried(work func()) (wrong fault) {
	defer func() {
		thrown := recover()
		if found, ok := thrown.(fault); ok {
			wrong = found
		} else if thrown != nil {
			panic(thrown)
		}
	}()
	work()
	return fault{}
}
