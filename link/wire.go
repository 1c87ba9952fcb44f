package link

import "workcell/api"

// wire between who sends and who hears: what happens to its sendings, how many there were, and its two ways.
type wire struct {
	script  []int
	sent    int
	lines   chan string
	answers chan bool
}

// sendAll lines, one by one, until one gets no answer.
func (w *wire) sendAll(lines []string, retry int) api.Errno {
	for _, line := range lines {
		if !w.insist(line, retry) {
			return api.ErrFault
		}
	}
	return api.OK
}

// insist on an answer: send the line, and again, at most retry times more; has an answer come back?
func (w *wire) insist(line string, retry int) bool {
	for range retry + 1 {
		if w.send(line) {
			return true
		}
	}
	return false
}

// send a line once; does its answer come back?
func (w *wire) send(line string) bool {
	fate := w.nextFate()
	if fate == lineLost {
		return false
	}
	w.lines <- arriving(line, fate)
	isAnswered := <-w.answers
	return isAnswered && fate != answerLost
}

// nextFate: what happens to the sending that begins now?
func (w *wire) nextFate() int {
	fate := unharmed
	if w.sent < len(w.script) {
		fate = w.script[w.sent]
	}
	w.sent++
	return fate
}

// arriving: how a line that is not lost comes out of the wire.
func arriving(line string, fate int) string {
	if fate < firstTurn {
		return line
	}
	bit := fate - firstTurn
	b := []byte(line)
	b[bit/8%len(b)] ^= 1 << (bit % 8)
	return string(b)
}
