package link_test

import (
	"slices"
	"strconv"
	"testing"

	"workcell/api"
	"workcell/code"
	"workcell/link"
)

// Most lines and numbers, most sendings again, and the greatest number of a line.
const (
	most  = api.MaxWire
	again = 100
	last  = api.MaxLine
)

// die: numbers that look drawn, the same each time.
type die uint64

func (d *die) n(most int) int {
	*d = *d*6364136223846793005 + 1442695040888963407
	return int(uint64(*d>>33) % uint64(most))
}

// pick one of some.
func pick[T any](d *die, some ...T) T { return some[d.n(len(some))] }

// command that is drawn.
func (d *die) command() api.Command {
	place := func() int { return d.n(2*api.MaxPlace+1) - api.MaxPlace }
	switch kind := 1 + d.n(8); kind {
	case api.Go:
		return api.Command{Kind: kind, X: place(), Y: place(), Z: place()}
	case api.Plug, api.Cook, api.Rest, api.Turn:
		return api.Command{Kind: kind, Value: d.n(5000)}
	default:
		return api.Command{Kind: kind}
	}
}

// row of lines that are drawn, from a number on.
func (d *die) row(from, count int) []string {
	lines := make([]string, count)
	for i := range lines {
		lines[i] = printed(from+i, d.command())
	}
	return lines
}

// printed line; empty, if there is none.
func printed(n int, c api.Command) string {
	line, _ := code.Print(n, c)
	return line
}

// summed: what stands ahead of the sum, and it, and the right sum.
func summed(ahead string) string {
	sum := 0
	for _, b := range []byte(ahead) {
		sum ^= int(b)
	}
	return ahead + "*" + strconv.Itoa(sum)
}

// grabs: lines from a number on, all of one command.
func grabs(from, count int) []string {
	lines := make([]string, count)
	for i := range lines {
		lines[i] = printed(from+i, api.Command{Kind: api.Grab})
	}
	return lines
}

// sends: are so many of the lines taken, with so many sendings?
func sends(t *testing.T, lines []string, script []int, retry, taken, sent int, want api.Errno) {
	t.Helper()
	got, n, e := link.Send(lines, script, retry)
	if !slices.Equal(got, lines[:taken]) || n != sent || e != want {
		t.Errorf("Send(%.200q, %.40v, %d): %d lines %.200q, %d, %v; wanted %d, %d, %v", lines, script, retry, len(got), got, n, e, taken, sent, want)
	}
}

// refuses: is sending refused so, with nothing beside it?
func refuses(t *testing.T, lines []string, script []int, retry int, want api.Errno) {
	t.Helper()
	got, n, e := link.Send(lines, script, retry)
	if len(got) != 0 || n != 0 || e != want {
		t.Errorf("Send(%.200q, %.40v, %d): %.200q, %d, %v; wanted %v", lines, script, retry, got, n, e, want)
	}
}
