package check_test

import (
	"math"
	"slices"
	"strings"
	"testing"

	"workcell/api"
	"workcell/check"
)

// bounds: a name of each kind.
var bounds = []api.Bound{{Name: "n"}, {Name: "v", Kind: 1}, {Name: "l", Kind: 2}, {Name: "h", Kind: 3}, {Name: "t", Kind: 4}, {Name: "r", Kind: 5}}

// TestKind: expressions that may be (P9.1).
func TestKind(t *testing.T) {
	for _, c := range []struct {
		text string
		want int
	}{
		{"7", api.Number}, {"7nl", api.Volume}, {"7.5ul", api.Volume}, {"1ml", api.Volume}, {"7um", api.Length}, {"1cm", api.Length},
		{"7mK", api.Heat}, {"7K", api.Heat}, {"37C", api.Heat}, {"7ms", api.Time}, {"1h", api.Time}, {"7rpm", api.Turns},
		{"n", api.Number}, {"v", api.Volume}, {"l", api.Length}, {"h", api.Heat}, {"t", api.Time}, {"r", api.Turns},
		{"- v", api.Volume}, {"- - 1", api.Number}, {"- (v + 1nl)", api.Volume},
		{"v + v - 3ul", api.Volume}, {"n + 1", api.Number}, {"37C - h", api.Heat},
		{"2 * v", api.Volume}, {"v * 2", api.Volume}, {"n * 2", api.Number}, {"2 * t * n", api.Time},
		{"v / 2", api.Volume}, {"v / 1ul", api.Number}, {"4 / 2", api.Number}, {"r / r", api.Number}, {"l / 1mm * v", api.Volume},
		{"v / v + 1", api.Number}, {"(v + v) / (v - v) * h / h", api.Number}, {"n / n / n", api.Number}, {"t / (t / 2s)", api.Time},
	} {
		kind, line, e := check.Kind(expression(t, c.text), bounds)
		if kind != c.want || line != 0 || e != api.OK {
			t.Errorf("%s: %d %d %v, should be of kind %d", c.text, kind, line, e, c.want)
		}
	}
}

// TestKindPairs: all signs between all kinds, by amounts and by names (P9.1).
func TestKindPairs(t *testing.T) {
	for a := range 6 {
		for b := range 6 {
			want := map[string]int{"+": -1, "-": -1, "*": -1, "/": -1} // -1: it may not be
			if a == b {
				want["+"], want["-"], want["/"] = a, a, api.Number
			}
			if b == api.Number {
				want["*"], want["/"] = a, a
			}
			if a == api.Number {
				want["*"] = b
			}
			for sign, kind := range want {
				for _, n := range []api.Node{
					binary(sign, at(2, value(amounts[a])), at(3, value(amounts[b]))),
					binary(sign, at(2, name(bounds[a].Name)), at(3, name(bounds[b].Name))),
					binary(sign, at(2, minus(value(amounts[a]))), at(3, name(bounds[b].Name))),
				} {
					got, line, e := check.Kind(at(1, n), bounds)
					if kind < 0 && (got != 0 || line != 1 || e != api.ErrKind) || kind >= 0 && (got != kind || line != 0 || e != api.OK) {
						t.Errorf("%d %s %d: %d %d %v, should be %d", a, sign, b, got, line, e, kind)
					}
				}
			}
		}
	}
}

// TestKindNames: of names told twice the last one counts; names are whole, and large letters are not small ones (P9.1).
func TestKindNames(t *testing.T) {
	names := []api.Bound{{Name: "a", Kind: 3}, {Name: "b", Kind: 2}, {Name: "a", Kind: 1}, {Name: "A", Kind: 5}, {Name: "ab", Kind: 4}, {Name: "b", Kind: 0}, {Name: "", Kind: 2}, {Name: "tip", Kind: 2}}
	for text, want := range map[string]int{"a": 1, "b": 0, "A": 5, "ab": 4} {
		if kind, line, e := check.Kind(expression(t, text), names); kind != want || line != 0 || e != api.OK {
			t.Errorf("%s: %d %d %v, should be %d", text, kind, line, e, want)
		}
	}
	for _, text := range []string{"B", "aB", "abc", "x"} {
		if kind, line, e := check.Kind(expression(t, text), names); kind != 0 || line != 1 || e != api.ErrName {
			t.Errorf("%s: %d %d %v", text, kind, line, e)
		}
	}
	if kind, line, e := check.Kind(value("1ul"), nil); kind != api.Volume || line != 0 || e != api.OK {
		t.Error("without names:", kind, line, e)
	}
}

// TestKindFaults: the first kid first, then the second, then the node (P9.1).
func TestKindFaults(t *testing.T) {
	for _, c := range []struct {
		text string // of the word with the mark the line is told
		want api.Errno
	}{
		{"!x", api.ErrName}, {"- !x", api.ErrName}, {"!x + y", api.ErrName}, {"1 + !y", api.ErrName}, {"- ( 1 * !y )", api.ErrName},
		{"1 !+ v", api.ErrKind}, {"v !- 1", api.ErrKind}, {"v !* v", api.ErrKind}, {"1 !/ v", api.ErrKind}, {"l !/ v", api.ErrKind},
		{"v !* v + x", api.ErrKind}, {"v * !x + v * v", api.ErrName}, {"( 1 !+ v ) * ( 1 + v )", api.ErrKind}, {"1 * ( 1 !+ v )", api.ErrKind},
		{"v * ( 1ul !/ 1mm )", api.ErrKind}, {"v + 1 !/ v", api.ErrKind}, {"v !+ 1 / 1", api.ErrKind}, {"1 + ( v - v ) !* v", api.ErrKind},
		{"v !+ v / v", api.ErrKind}, {"- ( v !- l ) / x", api.ErrKind}, {"1 !+ 1 * v", api.ErrKind}, {"2 * 1ul !+ 1 + x", api.ErrKind},
	} {
		n := expression(t, onLines(strings.ReplaceAll(c.text, mark, "")))
		kind, line, e := check.Kind(n, bounds)
		if kind != 0 || line != lineOf(c.text) || e != c.want {
			t.Errorf("%s: %d %d %v, should be %v", c.text, kind, line, e, c.want)
		}
	}
}

// TestKindForm: what is no expression's tree is refused ahead of all, on no line (P9.1).
func TestKindForm(t *testing.T) {
	one := value("1")
	wrong := []api.Node{
		{}, of(-1, "1"), of(api.Binary+1, "1"), of(math.MaxInt, ""), of(math.MinInt, ""),
		program(), program(of(api.Wait, "", one)), block(), of(api.Let, "a", one), of(api.Wait, "", one), of(api.Tip, ""), of(api.Do, "f", one),
		of(api.Param, "a", of(api.KindOf, "num")), of(api.KindOf, "num"), of(api.SpotOf, "A1"),
		of(api.Well, "p", of(api.SpotOf, "A1")), of(api.Well, "p", one, one),
		value(""), value("x"), value("-1"), value("1x"), value("1 "), value("1.2345ul"), value("0.5nl"), value("1000000001"), of(api.Value, "1", one),
		name(""), name("tip"), name("num"), name("1"), name("a b"), name("\u00b5"), of(api.Name, "n", one),
		of(api.Minus, ""), of(api.Minus, "-", one), of(api.Minus, "", one, one), minus(block()), minus(of(api.Wait, "", one)),
		of(api.Binary, "+"), of(api.Binary, "+", one), of(api.Binary, "+", one, one, one), binary("", one, one), binary("<", one, one), binary("++", one, one),
		binary("+", one, of(api.Well, "p", one, one)), binary("*", of(api.SpotOf, "A1"), one),
	}
	for _, n := range wrong {
		for _, n := range []api.Node{n, minus(n), binary("+", name("nobody"), n), binary("*", binary("+", one, value("1nl")), minus(n))} {
			n = numbered(n)
			if kind, line, e := check.Kind(n, bounds); kind != 0 || line != 0 || e != api.ErrForm {
				t.Errorf("%v: %d %d %v", n, kind, line, e)
			}
		}
	}
}

// TestKindBounds: so is a bound of no kind, whether it counts or not (P9.1).
func TestKindBounds(t *testing.T) {
	for _, kind := range []int{-1, 6, 7, math.MinInt, math.MaxInt} {
		for place := range 3 {
			names := slices.Insert([]api.Bound{{Name: "a", Kind: 5}, {Name: "a", Kind: 0}}, place, api.Bound{Name: []string{"a", "b"}[place%2], Kind: kind})
			for _, n := range []api.Node{name("a"), value("1"), name("nobody"), binary("+", value("1"), value("1nl"))} {
				if got, line, e := check.Kind(at(3, n), names); got != 0 || line != 0 || e != api.ErrForm {
					t.Errorf("%v %v: %d %d %v", names, n, got, line, e)
				}
			}
		}
	}
}

// sum of names of volumes, with so many nodes.
func sum(nodes int) api.Node {
	n := name("v")
	if nodes%2 == 0 {
		n = minus(n)
	}
	for range (nodes - 1) / 2 {
		n = binary("+", n, name("v"))
	}
	return n
}

// nested: so many steps around a name of a volume.
func nested(count int, step func(api.Node) api.Node) api.Node {
	n := name("v")
	for range count {
		n = step(n)
	}
	return n
}

// steps that go one deeper each, but for the first ones, which need no parentheses yet.
var steps = []struct {
	step func(api.Node) api.Node
	free int
}{
	{minus, 0},
	{func(n api.Node) api.Node { return binary("-", name("v"), n) }, 1},
	{func(n api.Node) api.Node { return binary("*", value("1"), n) }, 1},
	{func(n api.Node) api.Node { return binary("*", binary("+", n, name("v")), value("2")) }, 0},
}

// TestKindNodes: a tree of more than MaxNodes nodes is no expression's, whatever else is wrong with it;
// only its own nodes count (P9.1, P8.2).
func TestKindNodes(t *testing.T) {
	for _, nodes := range []int{api.MaxNodes - 3, api.MaxNodes - 2, api.MaxNodes - 1, api.MaxNodes} {
		if kind, line, e := check.Kind(sum(nodes), bounds); kind != api.Volume || line != 0 || e != api.OK {
			t.Errorf("%d nodes: %d %d %v", nodes, kind, line, e)
		}
		if kind, line, e := check.Kind(relined(sum(nodes), func(int) int { return 9 }), nil); kind != 0 || line != 9 || e != api.ErrName {
			t.Errorf("%d nodes, and no name is known: %d %d %v", nodes, kind, line, e)
		}
	}
	for _, nodes := range []int{api.MaxNodes + 1, api.MaxNodes + 2, 2 * api.MaxNodes, 60001, 120000} {
		for _, names := range [][]api.Bound{bounds, nil} {
			if kind, line, e := check.Kind(relined(sum(nodes), func(int) int { return 9 }), names); kind != 0 || line != 0 || e != api.ErrForm {
				t.Errorf("%d nodes: %d %d %v", nodes, kind, line, e)
			}
		}
	}
}

// TestKindDepth: nor is one that is nested more than MaxDepth deep (P9.1, P8.2).
func TestKindDepth(t *testing.T) {
	for i, s := range steps {
		for _, more := range []int{-1, 0, 1, 2, 30, 60000} {
			n := relined(nested(api.MaxDepth+s.free+more, s.step), func(int) int { return 9 })
			kind, line, e := check.Kind(n, bounds)
			if more > 0 && (kind != 0 || line != 0 || e != api.ErrForm) || more <= 0 && (kind != api.Volume || line != 0 || e != api.OK) {
				t.Errorf("step %d, %d beyond: %d %d %v", i, more, kind, line, e)
			}
			kind, line, e = check.Kind(n, nil)
			if more > 0 && (kind != 0 || line != 0 || e != api.ErrForm) || more <= 0 && (kind != 0 || line != 9 || e != api.ErrName) {
				t.Errorf("step %d, %d beyond, no name known: %d %d %v", i, more, kind, line, e)
			}
		}
	}
	// Minuses and parentheses count together; a product in a sum needs none.
	for _, deep := range []int{api.MaxDepth, api.MaxDepth + 1} {
		want := api.OK
		if deep > api.MaxDepth {
			want = api.ErrForm
		}
		mixed := name("v")
		for range deep / 2 {
			mixed = minus(binary("+", binary("*", mixed, value("1")), name("v")))
		}
		if deep%2 == 1 {
			mixed = minus(mixed)
		}
		if _, line, e := check.Kind(mixed, bounds); line != 0 || e != want {
			t.Errorf("%d deep: %d %v", deep, line, e)
		}
	}
}

// TestKindLines: whatever they are, they are told as they are (P9.1).
func TestKindLines(t *testing.T) {
	for _, line := range []int{math.MinInt, -1, 0, math.MaxInt} {
		if _, got, e := check.Kind(minus(at(line, name("nobody"))), nil); got != line || e != api.ErrName {
			t.Error(line, got, e)
		}
	}
}

// TestKindDrawn: many expressions, held against the oracle (P9.1). What is handed in stays as it is.
func TestKindDrawn(t *testing.T) {
	d := drawer{die: new(die), slip: 12}
	seen := map[api.Errno]int{}
	for range 20000 {
		d.names = nil
		for range d.n(4) {
			d.names = append(d.names, api.Bound{Name: d.anyName(), Kind: d.n(6)})
		}
		n := numbered(d.expression(d.n(6), 4))
		before, names := copied(n), slices.Clone(d.names)
		o := oracle{names: slices.Clone(d.names)}
		want, v := o.quantity(n)
		kind, line, e := check.Kind(n, d.names)
		if kind != want.Kind || line != v.line || e != v.code {
			t.Fatalf("%v %v: %d %d %v, should be %v %v", n, names, kind, line, e, want, v)
		}
		if !same(n, before) || !slices.Equal(names, d.names) {
			t.Fatal("changed:", before, names)
		}
		seen[e]++
	}
	for _, e := range []api.Errno{api.OK, api.ErrName, api.ErrKind} {
		if seen[e] < 1000 {
			t.Error("too few of", e, seen)
		}
	}
}
