package nest_test

import (
	"testing"

	"workcell/api"
	"workcell/nest"
	"workcell/tree"
)

// parsed: the first statement's tree.
func parsed(t *testing.T, source string) api.Node {
	t.Helper()
	n, line, e := tree.Parse(source)
	if e != api.OK {
		t.Fatalf("%q is no protocol: %d %v", source, line, e)
	}
	return n
}

// TestDepth: Blocks, Minuses and Binaries that need parentheses count, nothing else (P8.2, P8.3).
func TestDepth(t *testing.T) {
	for text, want := range map[string]int{
		"1": 0, "((1))": 0, "a": 0, "- 1": 1, "- - a": 2, "-(1 + 2)": 2, "-(1 * 2)": 2, "-(-1)": 2,
		"1 + 2 + 3": 0, "1 + (2 + 3)": 1, "1 - (2 - (3 - 4))": 2, "1 + 2 * 3": 0, "(1 + 2) * 3": 1, "1 * (2 - 3)": 1,
		"1 * 2 / 3": 0, "1 * (2 / 3)": 1, "(1 * 2) + (3 / 4)": 0, "(1 + 2) * (3 - (4 - 5))": 2, "1 + (2 + 3 * (4 + -5))": 3,
	} {
		n := parsed(t, "let x = "+text)
		if got := nest.Depth(n); got != want {
			t.Errorf("%s, in a program: %d, should be %d", text, got, want)
		}
		if got := nest.Depth(n.Kids[0].Kids[0]); got != want {
			t.Errorf("%s alone: %d, should be %d", text, got, want)
		}
	}
	for source, want := range map[string]int{
		"": 0, "tip": 0, "if 1 < 2 { tip }": 1, "if -1 < 2 { } else { for i from 1 to -2 { wait -(1s + 2s) } }": 4, "def f(a num) { } do f(-(1 + 2))": 2,
	} {
		if got := nest.Depth(parsed(t, source)); got != want {
			t.Errorf("%s: %d, should be %d", source, got, want)
		}
	}
	if got := nest.Depth(api.Node{Kind: api.Block}); got != 1 {
		t.Error("a Block alone:", got)
	}
}

// TestIsWrapped: all signs in one another, on either side (P8.3).
func TestIsWrapped(t *testing.T) {
	one := api.Node{Kind: api.Value, Text: "1"}
	sums := map[string]int{"+": 1, "-": 1, "*": 0, "/": 0}
	for outer, outerSum := range sums {
		for inner, innerSum := range sums {
			kid := api.Node{Kind: api.Binary, Text: inner, Kids: []api.Node{one, one}}
			n := api.Node{Kind: api.Binary, Text: outer, Kids: []api.Node{kid, kid}}
			lower := innerSum > outerSum
			if got := nest.IsWrapped(n, 0); got != lower {
				t.Errorf("%s within %s, first: %v", inner, outer, got)
			}
			if got := nest.IsWrapped(n, 1); got != (lower || innerSum == outerSum) {
				t.Errorf("%s within %s, second: %v", inner, outer, got)
			}
			if !nest.IsWrapped(api.Node{Kind: api.Minus, Kids: []api.Node{kid}}, 0) {
				t.Errorf("%s behind a minus", inner)
			}
			if nest.IsWrapped(api.Node{Kind: api.Let, Text: "a", Kids: []api.Node{kid}}, 0) {
				t.Errorf("%s of a statement", inner)
			}
		}
	}
	for _, outer := range []int{api.Minus, api.Binary, api.Wait} {
		for _, kid := range []int{api.Value, api.Name, api.Minus} {
			n := api.Node{Kind: outer, Text: "*", Kids: []api.Node{{Kind: kid, Text: "-"}, {Kind: kid, Text: "-"}}}
			if nest.IsWrapped(n, 0) || nest.IsWrapped(n, 1) {
				t.Errorf("%d within %d", kid, outer)
			}
		}
	}
}
