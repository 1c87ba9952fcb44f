package elab_test

import (
	"math"
	"slices"
	"testing"

	"workcell/api"
	"workcell/check"
	"workcell/elab"
)

// names of each kind, with their values.
var (
	names  = []string{"n", "v", "l", "h", "t", "r", "z"}
	values = []api.Quantity{{Value: 7}, {Kind: 1, Value: 10}, {Kind: 2, Value: -3}, {Kind: 3, Value: 310150}, {Kind: 4, Value: api.MaxValue}, {Kind: 5, Value: -api.MaxValue}, {}}
)

// TestValue: expressions that have one (P10.1).
func TestValue(t *testing.T) {
	for _, c := range []struct {
		text string
		want api.Quantity
	}{
		{"7", quantity(api.Number, 7)}, {"12.5ul", quantity(api.Volume, 12500)}, {"1.5mm", quantity(api.Length, 1500)}, {"37C", quantity(api.Heat, 310150)},
		{"2min", quantity(api.Time, 120000)}, {"300rpm", quantity(api.Turns, 300)}, {"0nl", quantity(api.Volume, 0)},
		{"n", quantity(api.Number, 7)}, {"v", quantity(api.Volume, 10)}, {"l", quantity(api.Length, -3)}, {"z", quantity(api.Number, 0)},
		{"- n", quantity(api.Number, -7)}, {"- - v", quantity(api.Volume, 10)}, {"- l", quantity(api.Length, 3)}, {"- z", quantity(api.Number, 0)}, {"- 5C", quantity(api.Heat, -278150)},
		{"n + 5", quantity(api.Number, 12)}, {"v + 1ul", quantity(api.Volume, 1010)}, {"v - 1ul", quantity(api.Volume, -990)}, {"1 - n", quantity(api.Number, -6)},
		{"h - 37C", quantity(api.Heat, 0)}, {"l + l", quantity(api.Length, -6)}, {"t - 1ms", quantity(api.Time, 999999999)}, {"r + 1rpm", quantity(api.Turns, -999999999)},
		{"2 * v", quantity(api.Volume, 20)}, {"v * n", quantity(api.Volume, 70)}, {"n * n", quantity(api.Number, 49)}, {"l * - 2", quantity(api.Length, 6)}, {"z * t", quantity(api.Time, 0)},
		{"v / 3", quantity(api.Volume, 3)}, {"v / - 3", quantity(api.Volume, -3)}, {"- v / 3", quantity(api.Volume, -3)}, {"- v / - 3", quantity(api.Volume, 3)},
		{"v / 3nl", quantity(api.Number, 3)}, {"v / 1ul", quantity(api.Number, 0)}, {"- 7 / 2", quantity(api.Number, -3)}, {"n / n", quantity(api.Number, 1)}, {"r / r", quantity(api.Number, 1)},
		{"z / n", quantity(api.Number, 0)}, {"t / t * v", quantity(api.Volume, 10)},
		{"1 - 2 - 3", quantity(api.Number, -4)}, {"1 - (2 - 3)", quantity(api.Number, 2)}, {"8 / 4 / 2", quantity(api.Number, 1)}, {"8 / (4 / 2)", quantity(api.Number, 4)},
		{"1 + 2 * 3", quantity(api.Number, 7)}, {"(1 + 2) * 3", quantity(api.Number, 9)}, {"7 / 2 * 2", quantity(api.Number, 6)}, {"- (n - 1) * 2nl", quantity(api.Volume, -12)},
		{"t / t * 5 - 6", quantity(api.Number, -1)}, {"500ml + 500ml", quantity(api.Volume, api.MaxValue)}, {"- 500ml - 500ml", quantity(api.Volume, -api.MaxValue)},
		{"1000000000 * - 1", quantity(api.Number, -api.MaxValue)}, {"r * - 1", quantity(api.Turns, api.MaxValue)}, {"- r", quantity(api.Turns, api.MaxValue)}, {"31622 * 31622", quantity(api.Number, 999950884)},
	} {
		q, line, e := elab.Value(expression(t, c.text), names, values)
		if q != c.want || line != 0 || e != api.OK {
			t.Errorf("%s: %v %d %v, should be %v", c.text, q, line, e, c.want)
		}
	}
}

// TestValueFaults: the first fault, at its node (P10.1).
func TestValueFaults(t *testing.T) {
	for _, c := range []struct {
		text string // of the word with the mark the line is told
		want api.Errno
	}{
		{"!x", api.ErrName}, {"- !x", api.ErrName}, {"!x + y", api.ErrName}, {"1 + !y", api.ErrName}, {"v * !x + v * v", api.ErrName},
		{"1 !+ v", api.ErrKind}, {"v !* v", api.ErrKind}, {"1 !/ v", api.ErrKind}, {"v !* v + x", api.ErrKind}, {"1 !+ 1 * v", api.ErrKind}, {"1 * ( 1 !- v )", api.ErrKind},
		{"1000000000 !+ 1", api.ErrRange}, {"- 1000000000 !- 1", api.ErrRange}, {"t !+ t", api.ErrRange}, {"r !- 1rpm", api.ErrRange}, {"1 !+ 1000000000 - 1", api.ErrRange},
		{"31623 !* 31623", api.ErrRange}, {"t !* 2", api.ErrRange}, {"- 2 !* t", api.ErrRange}, {"t !* 1000000000", api.ErrRange}, {"1nl + ( v !* 1000000000 ) / 0", api.ErrRange},
		{"n !/ 0", api.ErrNone}, {"n !/ z", api.ErrNone}, {"v !/ z", api.ErrNone}, {"v !/ 0nl", api.ErrNone}, {"z !/ z", api.ErrNone}, {"v !/ ( v - 10nl )", api.ErrNone}, {"l !/ ( 1 / 2 )", api.ErrNone},
		{"- ( 1 !/ 0 )", api.ErrNone}, {"1 !/ 0 + 1 / 0", api.ErrNone}, {"1 + 1 !/ 0", api.ErrNone}, {"1 / ( 1 !/ 0 )", api.ErrNone},
		{"1 !/ 0 + 2 * 1000000000", api.ErrNone}, {"2 !* 1000000000 + 1 / 0", api.ErrRange}, {"( 1 !/ 0 ) * 1000000000 * 2", api.ErrNone},
		// names and kinds are told ahead of what comes of values
		{"1 / 0 + !x", api.ErrName}, {"t * 2 + !x", api.ErrName}, {"1 / 0 !+ 1nl", api.ErrKind}, {"t * 2 !+ 1", api.ErrKind}, {"1 / 0 + 1nl !* 1nl", api.ErrKind},
	} {
		q, line, e := elab.Value(expression(t, unmarked(c.text)), names, values)
		if q != (api.Quantity{}) || line != lineOf(c.text) || e != c.want {
			t.Errorf("%s: %v %d %v, should be %v", c.text, q, line, e, c.want)
		}
	}
}

// TestValuePairs: all signs between all kinds, as check says, and what unit makes of them (P10.1).
func TestValuePairs(t *testing.T) {
	for a := range 6 {
		for b := range 6 {
			for sign, of := range map[string]func(a, b int) int{
				"+": func(a, b int) int { return a + b }, "-": func(a, b int) int { return a - b },
				"*": func(a, b int) int { return a * b }, "/": func(a, b int) int { return a / b },
			} {
				n := numbered(binary(sign, name("a"), name("b")))
				kind, at, want := check.Kind(n, []api.Bound{{Name: "a", Kind: a}, {Name: "b", Kind: b}})
				should := api.Quantity{}
				if want == api.OK {
					should = quantity(kind, of(17, -5))
				}
				q, line, e := elab.Value(n, []string{"a", "b"}, []api.Quantity{{Kind: a, Value: 17}, {Kind: b, Value: -5}})
				if q != should || line != at || e != want {
					t.Errorf("%d %s %d: %v %d %v, should be %v %d %v", a, sign, b, q, line, e, should, at, want)
				}
			}
		}
	}
}

// TestValueNames: of names told twice the last one counts (P10.1).
func TestValueNames(t *testing.T) {
	names := []string{"a", "b", "a", "A", "ab", "b", "", "tip"}
	values := []api.Quantity{{Kind: 3, Value: 1}, {Kind: 2, Value: 2}, {Kind: 1, Value: 3}, {Kind: 5, Value: 4}, {Kind: 4, Value: 5}, {Value: 6}, {Value: 7}, {Value: 8}}
	for text, want := range map[string]api.Quantity{
		"a": quantity(1, 3), "b": quantity(0, 6), "A": quantity(5, 4), "ab": quantity(4, 5), "a + 1nl": quantity(1, 4), "b + 1": quantity(0, 7),
	} {
		if q, line, e := elab.Value(expression(t, text), names, values); q != want || line != 0 || e != api.OK {
			t.Errorf("%s: %v %d %v, should be %v", text, q, line, e, want)
		}
	}
	for _, text := range []string{"B", "aB", "abc", "x"} {
		if q, line, e := elab.Value(expression(t, text), names, values); q != (api.Quantity{}) || line != 1 || e != api.ErrName {
			t.Errorf("%s: %v %d %v", text, q, line, e)
		}
	}
	if q, line, e := elab.Value(value("1ul"), nil, []api.Quantity{}); q != quantity(api.Volume, 1000) || line != 0 || e != api.OK {
		t.Error("without names:", q, line, e)
	}
}

// TestValueForm: what may not be is refused ahead of all, on no line (P10.1).
func TestValueForm(t *testing.T) {
	one := value("1")
	wrong := []api.Node{
		{}, of(-1, "1"), of(api.Binary+1, "1"), of(math.MaxInt, ""), of(math.MinInt, ""),
		program(), block(), of(api.Wait, "", one), of(api.Tip, ""), of(api.KindOf, "num"), of(api.SpotOf, "A1"), of(api.Well, "p", one, one),
		value(""), value("-1"), value("1x"), value("0.5nl"), value("1000000001"), of(api.Value, "1", one),
		name(""), name("tip"), name("num"), name("1"), of(api.Name, "n", one),
		of(api.Minus, ""), of(api.Minus, "-", one), of(api.Minus, "", one, one),
		of(api.Binary, "+"), of(api.Binary, "+", one), of(api.Binary, "+", one, one, one), binary("", one, one), binary("<", one, one),
	}
	for _, n := range wrong {
		for _, n := range []api.Node{n, minus(n), binary("+", name("nobody"), n), binary("*", binary("/", one, value("0")), minus(n))} {
			n = numbered(n)
			if q, line, e := elab.Value(n, names, values); q != (api.Quantity{}) || line != 0 || e != api.ErrForm {
				t.Errorf("%v: %v %d %v", n, q, line, e)
			}
		}
	}
	for _, n := range []api.Node{name("n"), one, name("nobody"), binary("+", one, value("1nl")), binary("/", one, value("0"))} {
		n = numbered(n)
		for _, q := range []api.Quantity{{Kind: -1}, {Kind: 6}, {Kind: math.MaxInt}, {Value: api.MaxValue + 1}, {Value: -api.MaxValue - 1}, {Kind: 1, Value: math.MinInt}, {Kind: 5, Value: math.MaxInt}} {
			for place := range 3 {
				names := slices.Insert([]string{"n", "n"}, place, []string{"n", "b"}[place%2])
				values := slices.Insert([]api.Quantity{{Value: 1}, {Value: 2}}, place, q)
				if got, line, e := elab.Value(n, names, values); got != (api.Quantity{}) || line != 0 || e != api.ErrForm {
					t.Errorf("%v with %v: %v %d %v", n, values, got, line, e)
				}
			}
		}
		for _, count := range [][2]int{{0, 1}, {1, 0}, {6, 7}, {7, 6}, {0, 7}} {
			if q, line, e := elab.Value(n, names[:count[0]], values[:count[1]]); q != (api.Quantity{}) || line != 0 || e != api.ErrForm {
				t.Errorf("%v with %v: %v %d %v", n, count, q, line, e)
			}
		}
	}
}

// TestValueLimits: a tree beyond the limits of trees is no expression's (P10.1, P9.1, P8.2).
func TestValueLimits(t *testing.T) {
	sum := func(nodes int) api.Node {
		n := value("1nl")
		if nodes%2 == 0 {
			n = minus(n)
		}
		for range (nodes - 1) / 2 {
			n = binary("+", n, name("v"))
		}
		return numbered(n)
	}
	deep := func(count int) api.Node {
		n := value("1")
		for range count {
			n = minus(n)
		}
		return numbered(n)
	}
	for _, c := range []struct {
		n    api.Node
		want api.Quantity
		e    api.Errno
	}{
		{sum(api.MaxNodes - 1), quantity(api.Volume, 1+10*(api.MaxNodes/2-1)), api.OK},
		{sum(api.MaxNodes), quantity(api.Volume, -1+10*(api.MaxNodes/2-1)), api.OK},
		{sum(api.MaxNodes + 1), api.Quantity{}, api.ErrForm},
		{sum(60001), api.Quantity{}, api.ErrForm},
		{deep(api.MaxDepth - 1), quantity(api.Number, -1), api.OK},
		{deep(api.MaxDepth), quantity(api.Number, 1), api.OK},
		{deep(api.MaxDepth + 1), api.Quantity{}, api.ErrForm},
		{deep(60000), api.Quantity{}, api.ErrForm},
	} {
		if q, line, e := elab.Value(c.n, names, values); q != c.want || line != 0 || e != c.e {
			t.Errorf("%v %d %v, should be %v %v", q, line, e, c.want, c.e)
		}
	}
}

// TestValueDrawn: many expressions, held against the oracle, on other lines, too. What is handed in stays as it is (P10.1).
func TestValueDrawn(t *testing.T) {
	d := die(1)
	seen := map[api.Errno]int{}
	for range 40000 {
		w := drawer{die: &d, wild: pick(&d, 2, 8)}
		o := oracle{}
		var given []string
		var are []api.Quantity
		for i, text := range []string{"a", "b", "c", "i"}[:d.n(5)] {
			q := quantity(d.n(6), pick(&d, i, -d.n(50), d.n(50), d.n(api.MaxValue), -d.n(api.MaxValue), api.MaxValue))
			w.names = append(w.names, api.Bound{Name: text, Kind: q.Kind})
			o.names = append(o.names, bound{text, q})
			given, are = append(given, text), append(are, q)
		}
		n := numbered(w.expression(d.n(6), 4))
		var want api.Quantity
		wrong := caught(func() { want = o.value(n) })
		before, wasGiven, were := copied(n), slices.Clone(given), slices.Clone(are)
		q, line, e := elab.Value(n, given, are)
		if q != want || (verdict{line, e}) != wrong {
			t.Fatalf("%v with %v: %v %d %v, should be %v %v", n, o.names, q, line, e, want, wrong)
		}
		if !same(n, before) || !slices.Equal(given, wasGiven) || !slices.Equal(are, were) {
			t.Fatal("changed:", before)
		}
		moved := relined(n, func(line int) int { return 5 - line })
		if wrong.code != api.OK {
			wrong.line = 5 - wrong.line
		}
		if q, line, e := elab.Value(moved, given, are); q != want || (verdict{line, e}) != wrong {
			t.Fatalf("%v on other lines: %v %d %v, should be %v %v", n, q, line, e, want, wrong)
		}
		seen[e]++
	}
	for _, e := range []api.Errno{api.OK, api.ErrRange, api.ErrNone} {
		if seen[e] < 500 {
			t.Error("too few of", e, seen)
		}
	}
}
