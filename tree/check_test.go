package tree_test

import (
	"math"
	"regexp"
	"slices"
	"strings"
	"testing"

	"workcell/api"
	"workcell/tree"
	"workcell/unit"
)

// letters: one for each kind of node from 0 on; kinds that may stand for one another have the same.
const letters = "?PBssssssssssssssssKkwoeeee"

// letter of a kind: s a statement, e an expression, K a parameter; ? of what is no kind.
func letter(n api.Node) string {
	if n.Kind < 0 || n.Kind >= len(letters) {
		return "?"
	}
	return letters[n.Kind : n.Kind+1]
}

// patterns: which letters the kids of a kind must have, by the chapter's words.
var patterns = compiled(map[int]string{
	api.Program: "s*", api.Block: "s*", api.Let: "e", api.Set: "e", api.Fill: "we", api.Tip: "", api.Drop: "", api.Draw: "ew", api.Put: "ew", api.Transfer: "eww",
	api.Warm: "e", api.Hold: "e", api.Shake: "ee", api.Wait: "e", api.For: "eeB", api.If: "eeBB?", api.Define: "K*B", api.Do: "e*",
	api.Param: "k", api.KindOf: "", api.Well: "ee|o", api.SpotOf: "", api.Value: "", api.Name: "", api.Minus: "e", api.Binary: "ee",
})

func compiled(texts map[int]string) map[int]*regexp.Regexp {
	all := map[int]*regexp.Regexp{}
	for kind, text := range texts {
		all[kind] = regexp.MustCompile(`\A(` + text + `)\z`)
	}
	return all
}

// Forms of texts.
var (
	nameForm  = regexp.MustCompile(`\A[A-Za-z][A-Za-z0-9]*\z`)
	labelForm = regexp.MustCompile(`\A[a-z][a-z0-9]{0,15}\z`)
	spotForm  = regexp.MustCompile(`\A[A-Pa-p]([1-9]|1[0-9]|2[0-4])\z`)
)

// mayText: may a node of that kind have the text, by the chapters' words?
func mayText(kind int, text string) bool {
	switch kind {
	case api.Let, api.Set, api.For, api.Define, api.Do, api.Param, api.Well, api.Name:
		return nameForm.MatchString(text) && !slices.Contains(strings.Fields(reserved), text)
	case api.Fill:
		return labelForm.MatchString(text)
	case api.KindOf:
		return slices.Contains(strings.Fields("num vol len heat time turns"), text)
	case api.SpotOf:
		return spotForm.MatchString(text)
	case api.Value:
		_, e := unit.Read(text)
		return e == api.OK && text[0] != '-'
	case api.Binary:
		return len(text) == 1 && strings.Contains("+-*/", text)
	}
	return text == ""
}

// may: is the tree one, by texts and patterns?
func may(n api.Node) bool {
	pattern, ok := patterns[n.Kind]
	kids := ""
	for _, kid := range n.Kids {
		kids += letter(kid)
		ok = ok && may(kid)
	}
	return ok && mayText(n.Kind, n.Text) && pattern.MatchString(kids)
}

// texts that some kind has, and some that none has.
var texts = []string{
	"", "a", "x1", "A1", "a1", "P24", "p24", "Q1", "A25", "A01", "A0", "Let", "let", "tip", "for", "vol", "heat", "num", "turns", "Vol", "1", "12.5ul", "3\u00b5l", "-1", "-5ul", "0.5", "1000000000", "1000000001", "5q", "1.", "5ul ", " 1", "1 2",
	"+", "-", "*", "/", "<", "=", "(", ".", "++", "+-", "a b", "a_b", "\u00e4", "a\u00b5", "\xff", "a\n", "\n", `"`, `"a"`, "a.A1", "#", "q123456789abcdef", "q123456789abcdefg", "\u0661", "a\x00",
}

// whole: a program with each kind of node, and each form of it.
func whole() api.Node {
	one, x := value("1"), name("x")
	return program(
		of(api.Let, "x", one), of(api.Set, "x", minus(x)), of(api.Fill, "a", well("p", "A1"), one), of(api.Tip, ""), of(api.Drop, ""),
		of(api.Draw, "", one, well("p", "A1")), of(api.Put, "", one, of(api.Well, "p", one, x)), of(api.Transfer, "", one, well("p", "A1"), well("q", "A1")),
		of(api.Warm, "", one), of(api.Hold, "", one), of(api.Shake, "", one, x), wait(binary("+", one, x)),
		of(api.For, "i", one, x, block(of(api.Tip, ""))), of(api.If, "", one, x, block()), of(api.If, "", one, x, block(), block(of(api.Drop, ""))),
		of(api.Define, "f", block()), of(api.Define, "g", of(api.Param, "x", of(api.KindOf, "vol")), of(api.Param, "y", of(api.KindOf, "num")), block()),
		of(api.Do, "f"), of(api.Do, "g", one, x))
}

// checked: Check must answer as the patterns do, of a tree that is not too great.
func checked(t *testing.T, n api.Node) {
	t.Helper()
	want := api.ErrForm
	if n.Kind == api.Program && may(n) {
		want = api.OK
	}
	if e := tree.Check(n); e != want {
		t.Errorf("Check(%s): %v, not %v", told(n), e, want)
	}
	if text, e := tree.Show(n); e != want || want != api.OK && text != "" {
		t.Errorf("Show(%s): %s, %v, not %v", told(n), brief(text), e, want)
	}
}

// P8.2: programs that may be: without anything, and with all.
func TestCheck(t *testing.T) {
	for _, n := range []api.Node{program(), whole(), program(whole().Kids[:5]...)} {
		if e := tree.Check(n); e != api.OK || !may(n) {
			t.Errorf("Check(%s): %v", told(n), e)
		}
	}
	for _, kind := range []int{math.MinInt, -1, 0, 2, 3, api.Tip, api.Do, api.Value, 26, 27, math.MaxInt} {
		if e := tree.Check(of(kind, "")); e != api.ErrForm {
			t.Errorf("Check of kind %d alone: %v", kind, e)
		}
		if e := tree.Check(of(kind, "", of(api.Tip, ""))); e != api.ErrForm {
			t.Errorf("Check of kind %d with a statement: %v", kind, e)
		}
	}
	// None of these is a Program's, though each may be a part of one.
	for _, n := range whole().Kids {
		if e := tree.Check(n); e != api.ErrForm {
			t.Errorf("Check(%s): %v", told(n), e)
		}
	}
	if e := tree.Check(program(program())); e != api.ErrForm {
		t.Errorf("a Program in another one: %v", e)
	}
}

// P8.2: each node of a program, with another kind, another text, a kid less, a kid more, or two exchanged.
func TestCheckEachNode(t *testing.T) {
	more := []api.Node{of(api.Tip, ""), block(), value("1"), well("p", "A1"), of(api.SpotOf, "A1"), of(api.KindOf, "vol"), of(api.Param, "x", of(api.KindOf, "vol")), program(), {}, of(27, "")}
	start := whole()
	for i := range nodes(&start) {
		change := func(how func(*api.Node)) {
			n := copied(start)
			how(nodes(&n)[i])
			checked(t, n)
		}
		for kind := -2; kind <= 29; kind++ {
			change(func(n *api.Node) { n.Kind = kind })
		}
		change(func(n *api.Node) { n.Kind = math.MaxInt })
		change(func(n *api.Node) { n.Kind = math.MinInt })
		for _, text := range texts {
			change(func(n *api.Node) { n.Text = text })
		}
		change(func(n *api.Node) { n.Kids = nil })
		for _, kid := range more {
			change(func(n *api.Node) { n.Kids = append(slices.Clone(n.Kids), copied(kid)) })
			change(func(n *api.Node) { n.Kids = append([]api.Node{copied(kid)}, n.Kids...) })
			change(func(n *api.Node) {
				if len(n.Kids) > 0 {
					n.Kids[len(n.Kids)-1] = copied(kid)
				}
			})
			change(func(n *api.Node) { *n = copied(kid) })
		}
		change(func(n *api.Node) { n.Kids = n.Kids[:max(0, len(n.Kids)-1)] })
		change(func(n *api.Node) { n.Kids = n.Kids[min(1, len(n.Kids)):] })
		change(func(n *api.Node) { slices.Reverse(n.Kids) })
		change(func(n *api.Node) { n.Kids = append(slices.Clone(n.Kids), copied(*n).Kids...) })
	}
}

// P8.2: drawn trees, some of them with a fault or two.
func TestCheckDrawn(t *testing.T) {
	d := die(7)
	wrong := 0
	for range 4000 {
		n := d.program()
		for range d.n(3) {
			some := nodes(&n)
			one, other := some[d.n(len(some))], *some[d.n(len(some))]
			switch d.n(4) {
			case 0:
				one.Kind = d.n(29) - 1
			case 1:
				one.Text = pick(&d, texts...)
			case 2:
				*one = copied(other)
			case 3:
				one.Kids = append(slices.Clone(one.Kids), copied(other))
			}
		}
		checked(t, n)
		if !may(n) {
			wrong++
		}
	}
	if wrong < 1000 || wrong > 3500 {
		t.Errorf("%d of 4000 trees are wrong", wrong)
	}
}

// P8.2: lines do not count.
func TestCheckLines(t *testing.T) {
	d := die(9)
	n := whole()
	text, _ := tree.Show(n)
	for range 50 {
		walk(&n, func(n *api.Node) { n.Line = pick(&d, 0, -1, 1, 5, math.MinInt, math.MaxInt) })
		if e := tree.Check(n); e != api.OK {
			t.Errorf("Check(%s): %v", told(n), e)
		}
		if again, e := tree.Show(n); again != text || e != api.OK {
			t.Errorf("Show(%s): %s, %v", told(n), brief(again), e)
		}
	}
}

// deepened: so many around a tree, one in the other.
func deepened(n api.Node, count int, around func(api.Node) api.Node) api.Node {
	for range count {
		n = around(n)
	}
	return n
}

// P8.2: ErrSize: more than MaxNodes nodes, whatever they are.
func TestCheckNodes(t *testing.T) {
	tips := func(count int) []api.Node { return slices.Repeat([]api.Node{of(api.Tip, "")}, count) }
	left := func(n api.Node) api.Node { return binary("+", n, value("1")) }
	for _, c := range []struct {
		n    api.Node
		want api.Errno
	}{
		{program(tips(api.MaxNodes - 1)...), api.OK},
		{program(tips(api.MaxNodes)...), api.ErrSize},
		{program(tips(100 * api.MaxNodes)...), api.ErrSize},
		{program(of(api.For, "i", value("1"), value("2"), block(tips(api.MaxNodes-5)...))), api.OK},
		{program(of(api.For, "i", value("1"), value("2"), block(tips(api.MaxNodes-4)...))), api.ErrSize},
		{program(wait(deepened(value("1"), 2498, left))), api.OK},
		{program(of(api.Tip, ""), wait(deepened(value("1"), 2498, left))), api.OK},
		{program(wait(deepened(value("1"), 2499, left))), api.ErrSize},
		{program(wait(deepened(value("1"), 30000, left))), api.ErrSize},
		// ErrForm is ahead of it.
		{program(append(tips(api.MaxNodes), of(api.Tip, "x"))...), api.ErrForm},
		{program(wait(deepened(value("x"), 30000, left))), api.ErrForm},
		{block(tips(api.MaxNodes)...), api.ErrForm},
	} {
		count, _ := tree.Size(c.n)
		if e := tree.Check(c.n); e != c.want {
			t.Errorf("Check of %d nodes: %v, not %v", count, e, c.want)
		}
		if text, e := tree.Show(c.n); e != c.want || (text == "") != (e != api.OK) {
			t.Errorf("Show of %d nodes: %s, %v, not %v", count, brief(text), e, c.want)
		}
	}
}

// isDeep: is a text that Parse takes just so deep? There is room for so many blocks around it, and for no more.
func isDeep(text string, deep int) bool {
	around := func(count int) api.Errno {
		_, _, e := tree.Parse(nested(count, "if 1 < 2 {", text, "}"))
		return e
	}
	room := api.MaxDepth - deep
	return around(room) == api.OK && around(room+1) == api.ErrSize
}

// P8.2: ErrSize: Blocks, Minuses and Binaries in parentheses more than MaxDepth deep, together; nothing else counts.
func TestCheckDepth(t *testing.T) {
	one := value("1")
	inBlock := func(n api.Node) api.Node { return of(api.If, "", one, one, block(n)) }
	inElse := func(n api.Node) api.Node { return of(api.If, "", one, one, block(), block(n)) }
	inFor := func(n api.Node) api.Node { return of(api.For, "i", one, one, block(of(api.Tip, ""), n)) }
	inDef := func(n api.Node) api.Node { return of(api.Define, "f", block(n)) }
	second := func(n api.Node) api.Node { return binary("-", one, n) }
	first := func(n api.Node) api.Node { return binary("-", n, one) }
	divisor := func(n api.Node) api.Node { return binary("/", one, n) }
	inProduct := func(n api.Node) api.Node { return binary("+", binary("*", n, one), one) }
	inMinus := func(n api.Node) api.Node { return minus(binary("*", n, one)) }
	sum, product := binary("+", one, one), binary("*", one, one)
	for count := 45; count <= 55; count++ {
		want := func(deep int) api.Errno {
			if deep > api.MaxDepth {
				return api.ErrSize
			}
			return api.OK
		}
		for _, c := range []struct {
			n    api.Node
			deep int
		}{
			{program(deepened(of(api.Tip, ""), count, inBlock)), count},
			{program(deepened(of(api.Tip, ""), count, inElse)), count},
			{program(deepened(of(api.Tip, ""), count, inFor)), count},
			{program(deepened(of(api.Tip, ""), count, inDef)), count},
			{program(wait(deepened(one, count, minus))), count},
			{program(wait(deepened(sum, count, second))), count},
			{program(wait(deepened(product, count, divisor))), count},
			{program(wait(deepened(sum, count, divisor))), count},
			{program(wait(second(deepened(product, count, divisor)))), count},
			{program(wait(deepened(sum, count, inProduct))), count},
			{program(wait(deepened(product, count, inProduct))), count - 1},
			{program(wait(deepened(one, count/2, inMinus))), count / 2 * 2},
			{program(wait(deepened(sum, 10*count, first))), 0},
			{program(wait(minus(deepened(sum, 10*count, first)))), 2},
			{program(wait(deepened(product, 10*count, first))), 0},
			{program(wait(second(deepened(one, count, minus)))), count},
			{program(wait(minus(deepened(sum, count, second)))), count + 2},
			{program(deepened(wait(minus(sum)), count, inBlock)), count + 2},
			{program(deepened(wait(sum), count, inBlock)), count},
			{program(deepened(of(api.Draw, "", one, of(api.Well, "p", one, minus(one))), count, inBlock)), count + 1},
			{program(deepened(of(api.Draw, "", sum, of(api.Well, "p", sum, sum)), count, inBlock)), count},
			{program(deepened(of(api.Do, "f", minus(one), binary("*", sum, one)), count, inElse)), count + 1},
			{program(deepened(of(api.Tip, ""), 25, inBlock), wait(deepened(one, count, minus))), count},
			{program(of(api.If, "", deepened(one, count, minus), one, block(wait(minus(one))))), count},
			{program(of(api.If, "", one, one, block(wait(deepened(one, count, minus))), block(wait(minus(one))))), count + 1},
		} {
			if e := tree.Check(c.n); e != want(c.deep) {
				t.Errorf("%d deep: %v: %s", c.deep, e, told(c.n))
			}
			text, e := tree.Show(c.n)
			if e != want(c.deep) || e != api.OK && text != "" {
				t.Errorf("%d deep: Show: %s, %v", c.deep, brief(text), e)
			}
			if e == api.OK && !isDeep(text, c.deep) {
				t.Errorf("%d deep is shown otherwise: %s", c.deep, brief(text))
			}
		}
		// ErrForm is ahead of it.
		wrong := program(deepened(of(api.Tip, "x"), count, inBlock))
		if e := tree.Check(wrong); e != api.ErrForm {
			t.Errorf("a fault %d deep: %v", count, e)
		}
	}
}

// P8.2: how many nodes, and how deep, of whatever tree.
func TestSize(t *testing.T) {
	for _, c := range []struct {
		n            api.Node
		nodes, depth int
	}{
		{api.Node{}, 1, 1},
		{program(), 1, 1},
		{of(-5, "\xff", api.Node{}, api.Node{}), 3, 2},
		{program(wait(value("1"))), 3, 3},
		{program(wait(value("1")), of(api.Tip, "")), 4, 3},
		{program(of(api.Tip, ""), wait(minus(value("1"))), of(api.Tip, "")), 6, 4},
		{api.Node{Kids: []api.Node{}}, 1, 1},
		{deepened(api.Node{}, 65535, func(n api.Node) api.Node { return of(0, "", n) }), 65536, 65536},
		{deepened(api.Node{}, 65535, func(n api.Node) api.Node { return of(0, "", n, api.Node{}) }), 2*65535 + 1, 65536},
		{deepened(api.Node{}, 17, func(n api.Node) api.Node { return of(0, "", n, n) }), 1<<18 - 1, 18},
		{of(9, "", slices.Repeat([]api.Node{{}}, 200000)...), 200001, 2},
	} {
		if count, depth := tree.Size(c.n); count != c.nodes || depth != c.depth {
			t.Errorf("Size: %d, %d, not %d, %d", count, depth, c.nodes, c.depth)
		}
	}
	n, _, _ := tree.Parse("put 1ul*2 into p.A1")
	if count, depth := tree.Size(n); count != 7 || depth != 4 {
		t.Errorf("Size of the chapter's example: %d, %d", count, depth)
	}
}

// Whatever is nested as deep as anything may be: all calls end.
func TestGreatTrees(t *testing.T) {
	for _, around := range []func(api.Node) api.Node{
		minus,
		func(n api.Node) api.Node { return block(n) },
		func(n api.Node) api.Node { return program(n) },
		func(n api.Node) api.Node { return binary("+", value("1"), n) },
		func(n api.Node) api.Node { return binary("*", n, value("1")) },
		func(n api.Node) api.Node { return of(api.If, "", value("1"), value("1"), block(n)) },
	} {
		n := program(wait(deepened(value("1"), 1<<16-3, around)))
		if e := tree.Check(n); e == api.OK {
			t.Errorf("Check: %v", e)
		}
		if text, e := tree.Show(n); text != "" || e != tree.Check(n) {
			t.Errorf("Show: %s, %v", brief(text), e)
		}
	}
}

// What is handed in stays as it is, its spare room, too.
func TestTreesAreLeft(t *testing.T) {
	n := whole()
	walk(&n, func(n *api.Node) {
		if count := len(n.Kids); count > 0 {
			n.Kids = append(slices.Clone(n.Kids), at(77, 77, "spare"))[:count]
		}
	})
	own := copied(n)
	tree.Check(n)
	tree.Show(n)
	tree.Size(n)
	if !same(n, own) {
		t.Error("the tree was changed")
	}
	for _, one := range nodes(&n) {
		if count := len(one.Kids); count > 0 && !same(one.Kids[:count+1][count], at(77, 77, "spare")) {
			t.Error("spare room was changed")
		}
	}
}
