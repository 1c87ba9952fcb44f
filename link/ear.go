package link

import (
	"workcell/api"
	"workcell/code"
)

// ear of who hears: the number that is expected next, and the lines that were taken.
type ear struct {
	next  int
	taken []string
}

// hear lines until no more can come, then tell those that were taken. There is no clock to wait by, so that no answer is
// told, too: as false.
func hear(first int, lines <-chan string, answers chan<- bool, taken chan<- []string) {
	e := ear{next: first}
	for line := range lines {
		answers <- e.take(line)
	}
	taken <- e.taken
}

// take a line, if it is the next one; is it answered?
func (e *ear) take(line string) bool {
	n, _, fault := code.Parse(line)
	if fault != api.OK {
		return false
	}
	if n == e.next {
		e.taken = append(e.taken, line)
		e.next++
		return true
	}
	return n == e.next-1 // its answer was lost
}

// firstNumber of lines, 0 if there are none; is each a line, with the number behind that of the one ahead of it?
func firstNumber(lines []string) (int, bool) {
	first := 0
	for i, line := range lines {
		n, _, e := code.Parse(line)
		if i == 0 {
			first = n
		}
		if e != api.OK || n != first+i {
			return 0, false
		}
	}
	return first, true
}
