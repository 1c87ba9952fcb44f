package check_test

import (
	"slices"
	"strings"
	"testing"

	"workcell/api"
	"workcell/tree"
)

// die: numbers that look drawn, the same each time.
type die uint64

func (d *die) n(most int) int {
	*d = *d*6364136223846793005 + 1442695040888963407
	return int(uint64(*d>>33) % uint64(most))
}

// pick one of some.
func pick[T any](d *die, some ...T) T { return some[d.n(len(some))] }

// of: a node without a line.
func of(kind int, text string, kids ...api.Node) api.Node {
	return api.Node{Kind: kind, Text: text, Kids: kids}
}

// at: a node on a line.
func at(line int, n api.Node) api.Node {
	n.Line = line
	return n
}

// Short forms of nodes without lines.
func program(kids ...api.Node) api.Node { return of(api.Program, "", kids...) }
func block(kids ...api.Node) api.Node   { return of(api.Block, "", kids...) }
func value(text string) api.Node        { return of(api.Value, text) }
func name(text string) api.Node         { return of(api.Name, text) }
func minus(n api.Node) api.Node         { return of(api.Minus, "", n) }
func binary(sign string, a, b api.Node) api.Node {
	return of(api.Binary, sign, a, b)
}

// kindWords: what a protocol calls kinds, in their order.
var kindWords = []string{"num", "vol", "len", "heat", "time", "turns"}

// amounts: one of each kind, in their order.
var amounts = []string{"1", "1nl", "1um", "1mK", "1ms", "1rpm"}

// table: a deck with a plate p of two rows and three columns, a plate q with all wells that there can be,
// a rack r and a trash t.
func table() []api.Seat {
	plate := api.Ware{Name: "w", Kind: api.Plate, Rows: 2, Columns: 3, Pitch: 9000, Width: 60000, Length: 30000, Height: 14000, Deep: 10000, Capacity: 200}
	great := plate
	great.Rows, great.Columns, great.Pitch = api.MaxRows, api.MaxColumns, 1000
	rack := plate
	rack.Kind, rack.Rows, rack.Columns = api.Rack, 1, 1
	trash := rack
	trash.Kind, trash.Capacity = api.Trash, 0
	return []api.Seat{{Slot: 1, Name: "p", Ware: plate}, {Slot: 5, Name: "q", Ware: great}, {Slot: 7, Name: "r", Ware: rack}, {Slot: 12, Name: "t", Ware: trash}}
}

// parsed: the tree of a source, which must be one.
func parsed(t testing.TB, source string) api.Node {
	t.Helper()
	n, line, e := tree.Parse(source)
	if e != api.OK {
		t.Fatalf("%q is no protocol: %d %v", source, line, e)
	}
	return n
}

// expression: the tree of one, which must be one.
func expression(t testing.TB, text string) api.Node {
	t.Helper()
	return parsed(t, "let x = "+text).Kids[0].Kids[0]
}

// onLines: each word of a text on a line of its own.
func onLines(text string) string { return strings.Join(strings.Fields(text), "\n") }

// lineOf: on which line, each word on its own, the word stands that has a mark ahead of it; 0 if none has.
func lineOf(text string) int {
	return 1 + slices.IndexFunc(strings.Fields(text), func(word string) bool { return strings.HasPrefix(word, mark) })
}

// mark of the word at which a fault is.
const mark = "!"

// copied: a tree in memory of its own.
func copied(n api.Node) api.Node {
	n.Kids = slices.Clone(n.Kids)
	for i := range n.Kids {
		n.Kids[i] = copied(n.Kids[i])
	}
	return n
}

// relined: a copy of a tree, with a new line for each old one.
func relined(n api.Node, line func(int) int) api.Node {
	n = copied(n)
	walk(&n, func(n *api.Node) { n.Line = line(n.Line) })
	return n
}

// numbered: a copy of a tree, each node on a line of its own.
func numbered(n api.Node) api.Node {
	last := 0
	return relined(n, func(int) int {
		last++
		return last
	})
}

// walk over all nodes of a tree, each ahead of its kids.
func walk(n *api.Node, see func(*api.Node)) {
	see(n)
	for i := range n.Kids {
		walk(&n.Kids[i], see)
	}
}

// same: are two trees alike, lines too?
func same(a, b api.Node) bool {
	return a.Kind == b.Kind && a.Text == b.Text && a.Line == b.Line && slices.EqualFunc(a.Kids, b.Kids, same)
}
