package elab_test

import (
	"slices"
	"strings"
	"testing"

	"workcell/api"
	"workcell/tree"
)

// die: numbers that look drawn, the same each time.
type die uint64

func (d *die) n(most int) int {
	*d = *d*6364136223846793005 + 1442695040888963407
	return int(uint64(*d>>33) % uint64(most))
}

// pick one of some.
func pick[T any](d *die, some ...T) T { return some[d.n(len(some))] }

// of: a node without a line.
func of(kind int, text string, kids ...api.Node) api.Node {
	return api.Node{Kind: kind, Text: text, Kids: kids}
}

// Short forms of nodes without lines.
func program(kids ...api.Node) api.Node { return of(api.Program, "", kids...) }
func block(kids ...api.Node) api.Node   { return of(api.Block, "", kids...) }
func value(text string) api.Node        { return of(api.Value, text) }
func name(text string) api.Node         { return of(api.Name, text) }
func minus(n api.Node) api.Node         { return of(api.Minus, "", n) }
func binary(sign string, a, b api.Node) api.Node {
	return of(api.Binary, sign, a, b)
}

// quantity of a kind.
func quantity(kind, value int) api.Quantity { return api.Quantity{Kind: kind, Value: value} }

// table: a deck with a trash t, a rack s of great tips, a rack r of small ones in a lesser slot,
// a plate q of one well, and a plate p of two rows and three columns.
func table() []api.Seat {
	plate := api.Ware{Name: "w", Kind: api.Plate, Rows: 2, Columns: 3, Pitch: 9000, Width: 60000, Length: 30000, Height: 14000, Deep: 10000, Capacity: 200}
	single := plate
	single.Rows, single.Columns = 1, 1
	rack := plate
	rack.Kind, rack.Capacity = api.Rack, 20
	great := rack
	great.Capacity = 1000
	trash := single
	trash.Kind, trash.Capacity = api.Trash, 0
	return []api.Seat{{Slot: 12, Name: "t", Ware: trash}, {Slot: 8, Name: "s", Ware: great}, {Slot: 7, Name: "r", Ware: rack}, {Slot: 5, Name: "q", Ware: single}, {Slot: 1, Name: "p", Ware: plate}}
}

// without: the table without its racks.
func without() []api.Seat {
	return slices.DeleteFunc(table(), func(s api.Seat) bool { return s.Ware.Kind == api.Rack })
}

// tips: a deck with a rack of such tips beside two plates p and q.
func tips(capacity int) []api.Seat {
	d := table()[2:]
	d[0].Ware.Capacity = capacity
	return d
}

// place of a well, its row and column from 0 on.
func place(slot, row, column int) api.Place {
	return api.Place{Slot: slot, Spot: api.Spot{Row: row, Column: column}}
}

// Short forms of actions.
func fill(p api.Place, label string, volume int) api.Action {
	return api.Action{Kind: api.Fill, Place: p, Label: label, Volume: volume}
}
func draw(p api.Place, volume int) api.Action {
	return api.Action{Kind: api.Draw, Place: p, Volume: volume}
}
func put(p api.Place, volume int) api.Action {
	return api.Action{Kind: api.Put, Place: p, Volume: volume}
}
func wait(time int) api.Action { return api.Action{Kind: api.Wait, Time: time} }

// tip and drop need nothing more.
var (
	tip  = api.Action{Kind: api.Tip}
	drop = api.Action{Kind: api.Drop}
)

// parsed: the tree of a source, which must be one.
func parsed(t testing.TB, source string) api.Node {
	t.Helper()
	n, line, e := tree.Parse(source)
	if e != api.OK {
		t.Fatalf("%q is no protocol: %d %v", source, line, e)
	}
	return n
}

// expression: the tree of one, which must be one.
func expression(t testing.TB, text string) api.Node {
	t.Helper()
	return parsed(t, "let x = "+text).Kids[0].Kids[0]
}

// mark of the word at which a fault is.
const mark = "!"

// unmarked: the text without marks, each word on a line of its own.
func unmarked(text string) string {
	return strings.Join(strings.Fields(strings.ReplaceAll(text, mark, "")), "\n")
}

// lineOf: on which line, each word on its own, the word stands that has a mark ahead of it; 0 if none has.
func lineOf(text string) int {
	return 1 + slices.IndexFunc(strings.Fields(text), func(word string) bool { return strings.HasPrefix(word, mark) })
}

// copied: a tree in memory of its own.
func copied(n api.Node) api.Node {
	n.Kids = slices.Clone(n.Kids)
	for i := range n.Kids {
		n.Kids[i] = copied(n.Kids[i])
	}
	return n
}

// relined: a copy of a tree, with a new line for each old one.
func relined(n api.Node, line func(int) int) api.Node {
	n = copied(n)
	walk(&n, func(n *api.Node) { n.Line = line(n.Line) })
	return n
}

// numbered: a copy of a tree, each node on a line of its own.
func numbered(n api.Node) api.Node {
	last := 0
	return relined(n, func(int) int {
		last++
		return last
	})
}

// walk over all nodes of a tree, each ahead of its kids.
func walk(n *api.Node, see func(*api.Node)) {
	see(n)
	for i := range n.Kids {
		walk(&n.Kids[i], see)
	}
}

// same: are two trees alike, lines too?
func same(a, b api.Node) bool {
	return a.Kind == b.Kind && a.Text == b.Text && a.Line == b.Line && slices.EqualFunc(a.Kids, b.Kids, same)
}

// verdict: a line and an error.
type verdict struct {
	line int
	code api.Errno
}
