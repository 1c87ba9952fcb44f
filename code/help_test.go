package code_test

import (
	"strconv"
	"strings"
	"testing"

	"workcell/api"
	"workcell/code"
)

// Greatest numbers of a place, of a value and of a line.
const (
	far  = api.MaxPlace
	full = api.MaxVolume
	last = api.MaxLine
)

// die: numbers that look drawn, the same each time.
type die uint64

func (d *die) n(most int) int {
	*d = *d*6364136223846793005 + 1442695040888963407
	return int(uint64(*d>>33) % uint64(most))
}

// pick one of some.
func pick[T any](d *die, some ...T) T { return some[d.n(len(some))] }

// to a place.
func to(x, y, z int) api.Command { return api.Command{Kind: api.Go, X: x, Y: y, Z: z} }

// with a value.
func with(kind, value int) api.Command { return api.Command{Kind: kind, Value: value} }

// bare command.
func bare(kind int) api.Command { return api.Command{Kind: kind} }

// valued: kinds that have a use for a value; idle: those that have no use for any number.
func valued() []int { return []int{api.Plug, api.Cook, api.Rest, api.Turn} }
func idle() []int   { return []int{api.Home, api.Grab, api.Eject} }

// command that is drawn, and may be.
func (d *die) command() api.Command {
	switch kind := 1 + d.n(8); kind {
	case api.Go:
		place := func() int { m := pick(d, 0, 1, 30, 5000, far); return d.n(2*m+1) - m }
		return to(place(), place(), place())
	case api.Plug, api.Cook, api.Rest, api.Turn:
		return with(kind, d.n(pick(d, 1, 2, 30, 5000, full+1)))
	default:
		return bare(kind)
	}
}

// number of a line that is drawn, and may be.
func (d *die) number() int { return d.n(pick(d, 1, 11, 1000, last+1)) }

// summed: what stands ahead of the sum, and it, and the right sum.
func summed(ahead string) string {
	sum := 0
	for _, b := range []byte(ahead) {
		sum ^= int(b)
	}
	return ahead + "*" + strconv.Itoa(sum)
}

// lines of a program, from texts ahead of their sums.
func lines(ahead ...string) string {
	var text strings.Builder
	for _, a := range ahead {
		text.WriteString(summed(a) + "\n")
	}
	return text.String()
}

// printed line that may be.
func printed(t *testing.T, n int, c api.Command) string {
	t.Helper()
	s, e := code.Print(n, c)
	if e != api.OK {
		t.Fatalf("Print(%d, %v): %v", n, c, e)
	}
	return s
}

// parses: is the line of that number and command?
func parses(t *testing.T, line string, n int, c api.Command) {
	t.Helper()
	m, d, e := code.Parse(line)
	if m != n || d != c || e != api.OK {
		t.Errorf("Parse(%q): %d, %v, %v; wanted %d, %v", line, m, d, e, n, c)
	}
}

// refuses: is the line refused so, with nothing beside it?
func refuses(t *testing.T, line string, want api.Errno) {
	t.Helper()
	n, c, e := code.Parse(line)
	if n != 0 || c != (api.Command{}) || e != want {
		t.Errorf("Parse(%q): %d, %v, %v; wanted %v", line, n, c, e, want)
	}
}
