package check_test

import (
	"math"
	"slices"
	"strconv"
	"strings"
	"testing"

	"workcell/api"
	"workcell/check"
	"workcell/deck"
	"workcell/tree"
)

// TestCheck: programs that may be (P9.2).
func TestCheck(t *testing.T) {
	for _, source := range []string{
		"", "tip drop",
		`fill p.A1 with "a" 90nl move 25nl from p.A1 into q.A1 tip draw 5nl from p.B3 put 3nl into q.P24 drop`,
		`fill t.A1 with "tip" 1ul draw 1nl from r.a1 put 1ul * 2 into p(1, 2)`,
		"heat 37C hold 1h wait 5ms shake 100rpm for 3s",
		"let a = 1ul set a = 2nl draw a from p.A1 let b = a / 1nl wait 1s * b",
		"for i from 1 to 3 { draw 1ul * i from p(i, 1) set i = i + 1 let x = i } for i from 1 to 2 { let x = 1ul } let i = 1ms let x = i wait x",
		"let i = 1nl if i < 2nl { let x = i } else { let x = 5 let y = x } let x = i let y = x draw y from p.A1",
		"if 1s < 2h { } if 1mm < 1um { tip } if 30C < 1K { } else { } if 1rpm < 2rpm { if 1 < 2 { } }",
		"let a = 1 for i from a to a { if i < a { let b = a set a = b } let b = 1nl } let b = 1s wait b",
		"def f(x vol, n num, l len, h heat, t time, r turns) { draw x * n from p(n, l / 1um) heat h wait t shake r for t } do f(1ul, 1, 1mm, 1C, 1s, 1rpm)",
		"let x = 1 def f(x vol) { let y = x set x = y } let y = 1s def g(x time, f time) { do f(1ul) wait x + f } do g(y, y * x) do f(1nl)",
		"def f() { let a = 1 if a < 2 { for i from 1 to a { set a = i } } } let a = 1ul let f = a do f() do f() draw f from p.A1",
		"def a(a num) { set a = 1 } let a = 1 do a(a) def A(a vol, A vol) { set a = A } do A(1ul, 1nl)",
		"let n = 1 draw 1nl from p(99 * n, - 1) put 1nl into q(n / n, 1nl / 2nl) put - 1nl into p.A1",
	} {
		if line, e := check.Check(parsed(t, source), table()); line != 0 || e != api.OK {
			t.Errorf("%s: %d %v", source, line, e)
		}
	}
	if line, e := check.Check(program(), nil); line != 0 || e != api.OK {
		t.Error("nothing on no deck:", line, e)
	}
}

// faults: programs that may not be; of the word with the mark the line is told.
func faults() map[api.Errno][]string {
	return map[api.Errno][]string{
		api.ErrKind: {
			// what statements ask for
			`fill p.A1 with "a" !90`, `fill p.A1 with "a" 1 !* 9`, `fill p ( !1nl , x ) with "a" x`,
			"draw !5 from z.A1", "draw !5s from p.A1", "put !- 5um into z.A1", "move !1rpm from z.A1 into z.A1",
			"heat !5", "heat !5s", "hold !5", "hold !5nl", "wait !5", "wait !37C", "shake !5s for 5", "shake 5rpm for !5rpm", "shake !1 for x",
			"for i from !1nl to x { heat 1 }", "for i from 1 to !1nl { heat 1 }",
			"if 1 < !1nl { heat 1 }", "if 1s < !1 { }", "if 1s < 1 !* 1K { }", "if 1 !+ 1s < x { }", "if 1s < 1 !+ 1nl { }",
			"draw 1nl from p ( !1nl , 1s )", "draw 1nl from p ( 1 , !1s )", "move 1nl from p.A1 into p ( 1 , !- 2K )", "put 1nl into p ( 1 !+ 1s , x )",
			// names
			"let a = 1ul !set a = 2", "let a = 1 !set a = a * 1s", "let a = 1 for i from 1 to 2 { !set a = 1nl }", "for i from 1 to 2 { !set i = 1nl }",
			"def f ( x vol ) { !set x = 1 }", "let a = 1 if 1 < 2 { if 1 < 2 { } else { !set a = 1s } }", "let a = 1 !+ 1s", "let a = 1 set b = 1 !+ 1s",
			"let a = 1 let b = a wait !b", "let a = 1nl let b = a / a draw !b from p.A1", "let a = 1nl draw 1nl from p ( 1 , !a )",
			// functions
			"def f ( x vol ) { } do f ( !1 )", "def f ( x vol , y time ) { } do f ( 1nl , !1nl )", "def f ( x vol , y time ) { } do f ( !1s , 1nl )",
			"def f ( x num ) { } do f ( !1nl )", "def f ( x len ) { } do f ( !1nl )", "def f ( x heat ) { } do f ( !1nl )", "def f ( x turns ) { } do f ( 1nl !+ 1 )",
			"def f ( x vol ) { wait !x }", "def f ( x num ) { draw !x from p.A1 }", "def f ( x heat ) { heat x wait !x }", "def f ( x time ) { wait x heat !x }",
			"def f ( x turns ) { shake x for 1s shake 1rpm for !x }", "def f ( x len ) { if x < 1um { } wait !x }",
			"wait 1s tip drop wait !2 wait x",
		},
		api.ErrName: {
			"let a = !a", "let a = 1 + !b", "!set a = 1", "draw !v from p.A1", "wait 1s * !n", `fill p ( !r , c ) with "a" v`, `fill p ( 1 , !c ) with "a" 1`,
			"shake !r for t", "shake 1rpm for !t", "if !a < b { }", "if 1 < !b { }", "for i from !a to b { }", "for i from 1 to !i { }", "for i from !i to 1 { }",
			"!set i = 1 for i from 1 to 2 { }", "for i from 1 to 2 { } !set i = 1", "if 1 < 2 { let a = 1 } !set a = 1", "if 1 < 2 { let a = 1 } else { !set a = 1 }",
			"for i from 1 to 2 { let a = 1 } !set a = 1", "let b = 1 for i from 1 to 2 { set b = 2 } !set c = 1",
			"let a = 1 def f ( x vol ) { !set a = 1 }", "let a = 1 def f ( ) { let b = !a }", "def f ( x vol ) { } draw !x from p.A1", "def f ( x vol ) { let y = x } !set y = 1nl",
			"def f ( x vol ) { } def g ( ) { draw !x from p.A1 }", "def f ( ) { } let a = !f", "def f ( ) { } !set f = 1",
			"!do f ( )", "!do f ( x , 1 + 1s )", "!do f ( ) def f ( ) { }", "def f ( ) { !do f ( ) }", "def f ( ) { if 1 < 2 { !do f ( ) } }", "def f ( ) { !do g ( ) } def g ( ) { }",
			"let f = 1 !do f ( )", "def f ( ) { } !do F ( )", "def f ( x vol ) { } do f ( !x )", "def f ( x vol , y vol ) { } do f ( 1nl , !x )",
			"let A = 1 let b = !a", "set a = !b", "!set a = 1 + 1",
		},
		api.ErrTwice: {
			"let a = 1 !let a = 1", "let a = 1 !let a = 1s", "let a = 1 if 1 < 2 { !let a = 1 }", "let a = 1 if 1 < 2 { } else { !let a = 1 }",
			"let a = 1 for i from 1 to 2 { if 1 < 2 { !let a = 1 } }", "if 1 < 2 { let a = 1 !let a = 1 }", "if 1 < 2 { let a = 1 if 1 < 2 { !let a = 2 } }",
			"for i from 1 to 2 { !let i = 1 }", "for i from 1 to 2 { if 1 < 2 { !let i = 1nl } }", "let i = 1 !for i from 1 to 2 { wait 1 }", "let i = 1nl !for i from 1 to 2 { }",
			"for i from 1 to 2 { !for i from 1 to 2 { } }", "let i = 1 if 1 < 2 { !for i from i to i { wait 1 } }",
			"def f ( x vol ) { !let x = 1 }", "def f ( x vol ) { if 1 < 2 { !let x = 1nl } }", "def f ( x vol ) { !for x from 1 to 2 { } }",
			"def f ( ) { } !def f ( ) { }", "def f ( ) { } !def f ( x vol , x vol ) { wait 1 }", "def f ( ) { } def g ( ) { } !def f ( a num ) { do f ( ) }",
			"def f ( x vol , !x vol ) { }", "def f ( x vol , y num , !x time ) { wait 1 }", "def f ( x vol , y num , !y num , x num ) { }",
		},
		api.ErrNone: {
			`fill !z . A1 with "a" 1`, `fill !z ( x , 1nl ) with "a" 1`, `fill !P . A1 with "a" 1nl`, "draw 1nl from !w . A1", "put 1nl into !pp . C9",
			"move 1nl from !z . A1 into y . A1", "move 1nl from p.A1 into !y . A1", "let z = 1nl draw z from !z . A1", "draw 1nl from !z ( 1 , 1 )",
			"def f ( p2 vol ) { draw p2 from !p2 . A1 }",
		},
		api.ErrRange: {
			`fill p . !C1 with "a" 1`, `fill p . !A4 with "a" 1nl`, "draw 1nl from p . !c3", "put 1nl into r . !A2", "put 1nl into r . !B1", "draw 1nl from t . !P24",
			"move 1nl from p . !B4 into z . A1", "move 1nl from p . B3 into t . !A2",
		},
		api.ErrCount: {
			"def f ( ) { } !do f ( 1 )", "def f ( x vol ) { } !do f ( )", "def f ( x vol ) { } !do f ( 1 , x )", "def f ( x vol , y vol ) { } !do f ( 1nl )",
			"def f ( x vol ) { } def g ( x vol ) { !do f ( x , x ) }",
		},
		api.ErrState: {
			"if 1 < 2 { !def f ( ) { } }", "if 1 < 2 { } else { !def f ( x vol , x vol ) { wait 1 } }", "for i from 1 to 2 { !def f ( ) { } }",
			"def f ( ) { !def g ( ) { } }", "def f ( ) { } for i from 1 to 2 { !def f ( ) { } }", "def f ( ) { if 1 < 2 { !def f ( ) { } } }",
		},
	}
}

// TestCheckFaults: the first fault, at its node; also behind what may be, and ahead of what may not (P9.2).
func TestCheckFaults(t *testing.T) {
	for want, texts := range faults() {
		for _, text := range texts {
			source := onLines(strings.ReplaceAll(text, mark, ""))
			for _, more := range []struct{ ahead, behind string }{{}, {"tip\ndef q ( k vol ) { }\n", "\nwait 1 wait x def f ( a vol , a vol ) { }"}} {
				line, e := check.Check(parsed(t, more.ahead+source+more.behind), table())
				if line != lineOf(text)+strings.Count(more.ahead, "\n") || e != want {
					t.Errorf("%s: %d %v, should be %v", text, line, e, want)
				}
			}
		}
	}
}

// TestCheckFaultsInside: a fault is found wherever its statements stand (P9.2).
func TestCheckFaultsInside(t *testing.T) {
	for want, texts := range faults() {
		for _, text := range texts {
			if strings.Contains(text, "def") {
				continue // no function stands in a block
			}
			source := onLines(strings.ReplaceAll(text, mark, ""))
			for _, around := range []string{
				"if 1 < 2 {\n%}", "if 1 < 2 { } else {\n%}", "for k from 1 to 2 {\n%}", "def k ( k num ) {\n%}", "def k ( ) { if 1 < 2 {\n%} }",
			} {
				line, e := check.Check(parsed(t, strings.Replace(around, "%", source+"\n", 1)), table())
				if line != lineOf(text)+1 || e != want {
					t.Errorf("%s in %s: %d %v, should be %v", text, around, line, e, want)
				}
			}
		}
	}
}

// TestCheckAhead: what tree.Check says, then what deck.Check says, ahead of all (P9.2).
func TestCheckAhead(t *testing.T) {
	wrong := numbered(program(of(api.Wait, "", name("nobody"))))
	form := numbered(program(of(api.Wait, "", name("nobody")), of(api.Tip, "x")))
	deep := value("1s")
	for range api.MaxDepth + 1 {
		deep = minus(deep)
	}
	size := numbered(program(of(api.Wait, "", name("nobody")), of(api.Wait, "", deep)))
	many := program(slices.Repeat([]api.Node{of(api.Drop, "")}, api.MaxNodes)...)
	most := program(many.Kids[1:]...)
	bad := table()
	bad[2].Slot = 13
	twice := table()
	twice[3].Name = "p"
	odd := table()
	odd[0].Ware.Rows = 0
	crowd := slices.Repeat(table(), 4)
	for i, c := range []struct {
		n    api.Node
		d    []api.Seat
		want verdict
	}{
		{api.Node{}, bad, verdict{0, api.ErrForm}},
		{form, table(), verdict{0, api.ErrForm}},
		{form, bad, verdict{0, api.ErrForm}},
		{at(7, block()), table(), verdict{0, api.ErrForm}},
		{at(7, value("1")), table(), verdict{0, api.ErrForm}},
		{size, table(), verdict{0, api.ErrSize}},
		{size, bad, verdict{0, api.ErrSize}},
		{many, table(), verdict{0, api.ErrSize}},
		{most, table(), verdict{}},
		{wrong, bad, verdict{0, api.ErrRange}},
		{wrong, twice, verdict{0, api.ErrTwice}},
		{wrong, odd, verdict{0, api.ErrCount}},
		{wrong, crowd, verdict{0, api.ErrCount}},
		{program(), odd, verdict{0, api.ErrCount}},
		{wrong, table(), verdict{3, api.ErrName}},
		{wrong, nil, verdict{3, api.ErrName}},
	} {
		if line, e := check.Check(c.n, c.d); (verdict{line, e}) != c.want {
			t.Errorf("case %d: %d %v, should be %v", i, line, e, c.want)
		}
	}
}

// TestCheckWells: of each ware just its own spots (P9.2).
func TestCheckWells(t *testing.T) {
	for _, s := range table() {
		for row := range api.MaxRows {
			for column := range api.MaxColumns {
				spot := string(rune('A'+row)) + strconv.Itoa(column+1)
				if row%2 == 1 {
					spot = strings.ToLower(spot)
				}
				n := numbered(program(of(api.Put, "", value("1nl"), of(api.Well, s.Name, of(api.SpotOf, spot)))))
				want := verdict{}
				if row >= s.Ware.Rows || column >= s.Ware.Columns {
					want = verdict{5, api.ErrRange}
				}
				if line, e := check.Check(n, table()); (verdict{line, e}) != want {
					t.Errorf("%s.%s: %d %v, should be %v", s.Name, spot, line, e, want)
				}
			}
		}
	}
}

// drawn: a program with a line a node, most of it as it must be.
func drawn(d *die) api.Node {
	w := drawer{die: d, slip: pick(d, 15, 60, 400)}
	return numbered(w.program())
}

// TestCheckDrawn: many programs, held against the oracle (P9.2). What is handed in stays as it is.
func TestCheckDrawn(t *testing.T) {
	d := die(9)
	seen := map[api.Errno]int{}
	for range 30000 {
		n, seats := drawn(&d), table()[:d.n(9)/2%5]
		if d.n(4) > 0 {
			seats = table()
		}
		before, was := copied(n), slices.Clone(seats)
		o := oracle{deck: seats}
		want := verdict{code: tree.Check(n)}
		if want.code == api.OK {
			want = o.statements(n.Kids)
		}
		line, e := check.Check(n, seats)
		if (verdict{line, e}) != want {
			text, _ := tree.Show(n)
			t.Fatalf("%s%v: %d %v, should be %v", text, n, line, e, want)
		}
		if !same(n, before) || !slices.Equal(seats, was) {
			t.Fatal("changed:", before)
		}
		seen[e]++
	}
	for _, e := range []api.Errno{api.OK, api.ErrRange, api.ErrName, api.ErrTwice, api.ErrNone, api.ErrKind, api.ErrCount, api.ErrState} {
		if seen[e] < 100 {
			t.Error("too few of", e, seen)
		}
	}
}

// TestCheckLines: a program that may be is one with other lines, too; a fault goes where its node goes (P9.2).
func TestCheckLines(t *testing.T) {
	d := die(4)
	for range 3000 {
		n := drawn(&d)
		line, e := check.Check(n, table())
		for _, moved := range []func(int) int{
			func(int) int { return 0 },
			func(line int) int { return -line },
			func(line int) int { return math.MaxInt - line },
			func(line int) int { return line * 7 % 5 },
		} {
			want := verdict{code: e}
			if e != api.OK {
				want.line = moved(line)
			}
			if line, e := check.Check(relined(n, moved), table()); (verdict{line, e}) != want {
				t.Fatalf("%v: %d %v, should be %v", n, line, e, want)
			}
		}
	}
}

// TestCheckParsed: of what is parsed, and of what is shown and parsed again, the same error is told (P9.2).
func TestCheckParsed(t *testing.T) {
	d := die(5)
	for range 2000 {
		n := drawn(&d)
		text, _ := tree.Show(n)
		_, want := check.Check(n, table())
		if _, e := check.Check(parsed(t, text), table()); e != want {
			t.Fatalf("%s: %v, should be %v", text, e, want)
		}
	}
}

// TestCheckDeep: blocks as deep as may be, with a name in each; what is said there, and behind them all (P9.2).
func TestCheckDeep(t *testing.T) {
	source := "let a = 1\n"
	for i := range api.MaxDepth {
		source += "if a < 2 {\nlet b" + strconv.Itoa(i) + " = a\n"
	}
	end := strings.Repeat("\n}", api.MaxDepth)
	for _, c := range []struct {
		text           string
		inside, behind api.Errno
	}{
		{"set a = b0 + b49", api.OK, api.ErrName},
		{"set a = b50", api.ErrName, api.ErrName},
		{"let a = 1", api.ErrTwice, api.ErrTwice},
		{"let b0 = 1", api.ErrTwice, api.OK},
		{"let b49 = 1", api.ErrTwice, api.OK},
		{"set b25 = 1nl", api.ErrKind, api.ErrName},
	} {
		for text, want := range map[string]api.Errno{source + c.text + end: c.inside, source + end + "\n" + c.text: c.behind} {
			line, e := check.Check(parsed(t, text), table())
			if e != want || (line == 0) != (want == api.OK) || line != 0 && !strings.HasPrefix(strings.Split(text, "\n")[line-1], c.text) {
				t.Errorf("%s: %d %v, should be %v", c.text, line, e, want)
			}
		}
	}
}

// TestExample: the chapter's (P9.2).
func TestExample(t *testing.T) {
	if line, e := check.Check(parsed(t, "let a = 1ul  set a = 2"), table()); line != 1 || e != api.ErrKind {
		t.Error(line, e)
	}
}

// FuzzCheck: sources of any form, held against the oracle.
func FuzzCheck(f *testing.F) {
	for _, texts := range faults() {
		for _, text := range texts {
			f.Add(onLines(strings.ReplaceAll(text, mark, "")))
		}
	}
	f.Fuzz(func(t *testing.T, source string) {
		n, _, e := tree.Parse(source)
		if e != api.OK {
			return
		}
		n = numbered(n)
		o := oracle{deck: table()}
		want := o.statements(n.Kids)
		if tree.Check(n) != api.OK || deck.Check(table()) != api.OK {
			t.Fatal("what was parsed may not be:", source)
		}
		if line, e := check.Check(n, table()); (verdict{line, e}) != want {
			t.Fatalf("%q: %d %v, should be %v", source, line, e, want)
		}
	})
}
