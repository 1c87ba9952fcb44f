package fluid_test

import (
	"fmt"
	"math"
	"slices"
	"strings"
	"testing"

	"workcell/api"
	"workcell/fluid"
)

const most = api.MaxVolume

// pour a fluid: labels and volumes, by turns.
func pour(parts ...any) []api.Parcel {
	var f []api.Parcel
	for i := 0; i < len(parts); i += 2 {
		f = append(f, api.Parcel{Label: parts[i].(string), Volume: parts[i+1].(int)})
	}
	return f
}

// striped: so many parcels of 1, no two side by side alike.
func striped(count int, first, second string) []api.Parcel {
	var f []api.Parcel
	for i := range count {
		f = append(f, api.Parcel{Label: []string{first, second}[i%2], Volume: 1})
	}
	return f
}

// brief: the beginning of what a fluid looks like.
func brief(f []api.Parcel) string {
	text := fmt.Sprintf("%+v", f)
	return text[:min(len(text), 99)]
}

// judged: fluids, and what Check must say of each.
func judged() []struct {
	f    []api.Parcel
	want api.Errno
} {
	sixteen := strings.Repeat("z", 16)
	return []struct {
		f    []api.Parcel
		want api.Errno
	}{
		{nil, api.OK},
		{[]api.Parcel{}, api.OK},
		{pour("a", 0), api.OK},
		{pour("a", 0, "a", 0, "b", 0), api.OK},
		{pour("a", most), api.OK},
		{pour("a", most-1, "b", 1), api.OK},
		{pour("a", most, "b", 0), api.OK},
		{pour("a9", 1, "z0", 1, "a", 1, "z", 1, sixteen, 1, "b0123456789xyz", 1), api.OK},
		{striped(100, "a", "b"), api.OK},

		{striped(101, "a", "b"), api.ErrCount},
		{make([]api.Parcel, 101), api.ErrCount},
		{pour("", 1), api.ErrName},
		{pour("", 0), api.ErrName},
		{pour(sixteen+"z", 1), api.ErrName},
		{pour("9", 1), api.ErrName},
		{pour("9a", 1), api.ErrName},
		{pour("A", 1), api.ErrName},
		{pour("aB", 1), api.ErrName},
		{pour("a_b", 1), api.ErrName},
		{pour("a b", 1), api.ErrName},
		{pour(" a", 1), api.ErrName},
		{pour("a\n", 1), api.ErrName},
		{pour("a\x00", 1), api.ErrName},
		{pour("`", 1), api.ErrName},
		{pour("{", 1), api.ErrName},
		{pour("a/", 1), api.ErrName},
		{pour("a:", 1), api.ErrName},
		{pour("\u00e4", 1), api.ErrName},
		{pour("a\u0660", 1), api.ErrName},
		{pour("a\xff", 1), api.ErrName},
		{pour("a", -1), api.ErrRange},
		{pour("a", most+1), api.ErrRange},
		{pour("a", math.MinInt), api.ErrRange},
		{pour("a", math.MaxInt), api.ErrRange},
		{pour("a", most, "b", 1), api.ErrSize},
		{pour("a", most, "a", most, "a", most), api.ErrSize},

		{append(pour("A", -1), striped(100, "a", "b")...), api.ErrCount},
		{pour("A", -1), api.ErrName},
		{pour("a", -1, "A", 1), api.ErrRange},
		{pour("A", 1, "a", -1), api.ErrName},
		{pour("a", most, "b", 1, "c", -1), api.ErrRange},
		{pour("a", most, "b", most, "C", 1), api.ErrName},
		{pour("a", math.MaxInt, "b", math.MinInt), api.ErrRange},
	}
}

// P2.1: what is wrong, if anything, and which of several errors.
func TestCheck(t *testing.T) {
	for _, c := range judged() {
		if e := fluid.Check(c.f); e != c.want {
			t.Errorf("Check(%s): %v, not %v", brief(c.f), e, c.want)
		}
	}
}

// P2.1 to P2.3: every call refuses a fluid as Check does, ahead of its own errors, and answers nothing else.
func TestAllRefuse(t *testing.T) {
	for _, c := range judged() {
		if c.want == api.OK {
			continue
		}
		plain, e1 := fluid.Plain(c.f)
		total, e2 := fluid.Total(c.f)
		taken, left, e3 := fluid.Draw(c.f, -1)
		sorted, e4 := fluid.Sorted(c.f)
		up, down, e5 := fluid.Share(c.f, "A")
		ahead, e6 := fluid.Put(c.f, striped(101, "a", "b"))
		back, e7 := fluid.Put(pour("a", most), c.f)
		within, e8 := fluid.Within(c.f, striped(101, "a", "b"))
		around, e9 := fluid.Within(nil, c.f)
		got := fmt.Sprint(plain, total, taken, left, sorted, up, down, ahead, back, within, around)
		if got != "[] 0 [] [] [] 0 0 [] [] false false" {
			t.Errorf("%s: %s", brief(c.f), got)
		}
		for i, e := range []api.Errno{e1, e2, e3, e4, e5, e6, e7, e8, e9} {
			if e != c.want {
				t.Errorf("%s: call %d: %v, not %v", brief(c.f), i+1, e, c.want)
			}
		}
	}
}

// P2.1 to P2.3: of two wrong fluids the first is told.
func TestFirstFluidFirst(t *testing.T) {
	for _, a := range judged() {
		for _, b := range judged() {
			want := a.want
			if want == api.OK {
				want = b.want
			}
			if _, e := fluid.Within(a.f, b.f); e != want {
				t.Errorf("Within(%s, %s): %v, not %v", brief(a.f), brief(b.f), e, want)
			}
			if _, e := fluid.Put(a.f, b.f); want != api.OK && e != want {
				t.Errorf("Put(%s, %s): %v, not %v", brief(a.f), brief(b.f), e, want)
			}
		}
	}
}

// P2.1: plain forms, written out.
func TestPlainAndTotal(t *testing.T) {
	for _, c := range []struct {
		f, want []api.Parcel
		total   int
	}{
		{nil, nil, 0},
		{pour("a", 0), nil, 0},
		{pour("a", 1, "b", 2), pour("a", 1, "b", 2), 3},
		{pour("a", 1, "a", 2), pour("a", 3), 3},
		{pour("a", 1, "b", 0, "a", 2), pour("a", 3), 3},
		{pour("a", 1, "b", 2, "a", 3), pour("a", 1, "b", 2, "a", 3), 6},
		{pour("b", 0, "a", 1, "a", 0, "c", 0, "a", 2, "b", 0), pour("a", 3), 3},
		{pour("a", 1, "a1", 2), pour("a", 1, "a1", 2), 3},
		{pour("a", most-1, "a", 1), pour("a", most), most},
	} {
		if got, e := fluid.Plain(c.f); !slices.Equal(got, c.want) || e != api.OK {
			t.Errorf("Plain(%v): %v, %v, not %v", c.f, got, e, c.want)
		}
		if got, e := fluid.Total(c.f); got != c.total || e != api.OK {
			t.Errorf("Total(%v): %v, %v, not %v", c.f, got, e, c.total)
		}
	}
}

// P2.2: fluids behind others, edges, and what is too much.
func TestPut(t *testing.T) {
	full := striped(100, "a", "b")
	for _, c := range []struct {
		f, g, want []api.Parcel
		e          api.Errno
	}{
		{nil, nil, nil, api.OK},
		{pour("a", 1), nil, pour("a", 1), api.OK},
		{nil, pour("a", 1), pour("a", 1), api.OK},
		{pour("a", 1), pour("b", 2), pour("a", 1, "b", 2), api.OK},
		{pour("b", 2), pour("a", 1), pour("b", 2, "a", 1), api.OK},
		{pour("a", 1, "b", 0), pour("c", 0, "a", 2, "b", 3), pour("a", 3, "b", 3), api.OK},
		{pour("a", most-1), pour("b", 1), pour("a", most-1, "b", 1), api.OK},
		{pour("a", most), pour("b", 0), pour("a", most), api.OK},
		{pour("a", most), pour("b", 1), nil, api.ErrSize},
		{pour("a", most), pour("a", most), nil, api.ErrSize},
		{full, nil, full, api.OK},
		{full, pour("b", 1), append(striped(99, "a", "b"), pour("b", 2)...), api.OK},
		{full, pour("c", 0), full, api.OK},
		{full, pour("c", 1), nil, api.ErrCount},
		{full, pour("a", 1), nil, api.ErrCount},
		{full[:99], pour("b", 1), full, api.OK},
		{full[:50], full[:50], full, api.OK},
		{full[:50], full[:51], nil, api.ErrCount},
		{full, full, nil, api.ErrCount},
		{slices.Repeat(pour("a", 1), 100), slices.Repeat(pour("a", 2), 100), pour("a", 300), api.OK},
		{full, pour("a", most), nil, api.ErrSize},
	} {
		if got, e := fluid.Put(c.f, c.g); !slices.Equal(got, c.want) || e != c.e {
			t.Errorf("Put(%s, %s): %s, %v, not %s, %v", brief(c.f), brief(c.g), brief(got), e, brief(c.want), c.e)
		}
	}
}

// P2.2: what is taken and what is left, edges, and wrong volumes.
func TestDraw(t *testing.T) {
	two := pour("a", 10, "b", 5)
	for _, c := range []struct {
		f           []api.Parcel
		volume      int
		taken, left []api.Parcel
		e           api.Errno
	}{
		{two, 12, pour("a", 10, "b", 2), pour("b", 3), api.OK},
		{two, 10, pour("a", 10), pour("b", 5), api.OK},
		{two, 9, pour("a", 9), pour("a", 1, "b", 5), api.OK},
		{two, 11, pour("a", 10, "b", 1), pour("b", 4), api.OK},
		{two, 0, nil, two, api.OK},
		{two, 15, two, nil, api.OK},
		{two, 16, nil, nil, api.ErrDry},
		{two, math.MaxInt, nil, nil, api.ErrDry},
		{two, -1, nil, nil, api.ErrRange},
		{two, math.MinInt, nil, nil, api.ErrRange},
		{nil, 0, nil, nil, api.OK},
		{nil, 1, nil, nil, api.ErrDry},
		{nil, -1, nil, nil, api.ErrRange},
		{pour("a", 0), 0, nil, nil, api.OK},
		{pour("a", 1, "b", 0, "a", 2, "b", 1), 2, pour("a", 2), pour("a", 1, "b", 1), api.OK},
		{pour("a", 1, "b", 0, "a", 2, "c", 0, "a", 3), 1, pour("a", 1), pour("a", 5), api.OK},
		{pour("a", most), most, pour("a", most), nil, api.OK},
		{pour("a", most), most + 1, nil, nil, api.ErrDry},
	} {
		taken, left, e := fluid.Draw(c.f, c.volume)
		if !slices.Equal(taken, c.taken) || !slices.Equal(left, c.left) || e != c.e {
			t.Errorf("Draw(%v, %d): %v, %v, %v, not %v, %v, %v", c.f, c.volume, taken, left, e, c.taken, c.left, c.e)
		}
	}
}

// P2.3: of each label one parcel, by bytes of labels.
func TestSorted(t *testing.T) {
	for _, c := range []struct{ f, want []api.Parcel }{
		{nil, nil},
		{pour("a", 0), nil},
		{pour("b", 2, "a", 1), pour("a", 1, "b", 2)},
		{pour("b", 2, "a", 1, "b", 3, "c", 0, "a", 4), pour("a", 5, "b", 5)},
		{pour("b", 1, "a9", 1, "aa", 1, "a10", 1, "a", 1), pour("a", 1, "a10", 1, "a9", 1, "aa", 1, "b", 1)},
		{striped(100, "b", "a"), pour("a", 50, "b", 50)},
	} {
		if got, e := fluid.Sorted(c.f); !slices.Equal(got, c.want) || e != api.OK {
			t.Errorf("Sorted(%s): %v, %v, not %v", brief(c.f), got, e, c.want)
		}
	}
}

// P2.3: shares in lowest terms, of labels that are there and that are not, and wrong ones.
func TestShare(t *testing.T) {
	mixed := pour("a", 4, "b", 2, "a", 2, "c", 0)
	for _, c := range []struct {
		f        []api.Parcel
		label    string
		up, down int
		e        api.Errno
	}{
		{mixed, "a", 3, 4, api.OK},
		{mixed, "b", 1, 4, api.OK},
		{mixed, "c", 0, 1, api.OK},
		{mixed, "d", 0, 1, api.OK},
		{pour("a", 7), "a", 1, 1, api.OK},
		{pour("a", most-1, "b", 1), "a", most - 1, most, api.OK},
		{pour("a", most/2, "b", most/2), "b", 1, 2, api.OK},
		{nil, "a", 0, 0, api.ErrNone},
		{pour("a", 0), "a", 0, 0, api.ErrNone},
		{mixed, "", 0, 0, api.ErrName},
		{mixed, "A", 0, 0, api.ErrName},
		{mixed, "1", 0, 0, api.ErrName},
		{mixed, strings.Repeat("a", 16), 0, 1, api.OK},
		{mixed, strings.Repeat("a", 17), 0, 0, api.ErrName},
		{nil, "A", 0, 0, api.ErrName},
	} {
		up, down, e := fluid.Share(c.f, c.label)
		if up != c.up || down != c.down || e != c.e {
			t.Errorf("Share(%v, %q): %d, %d, %v, not %d, %d, %v", c.f, c.label, up, down, e, c.up, c.down, c.e)
		}
	}
}

// P2.3: labels without a volume count on neither side.
func TestWithin(t *testing.T) {
	for _, c := range []struct {
		f, g []api.Parcel
		want bool
	}{
		{nil, nil, true},
		{nil, pour("a", 1), true},
		{pour("a", 1), nil, false},
		{pour("a", 9), pour("a", 1), true},
		{pour("a", 1, "b", 1), pour("b", 1, "a", 1), true},
		{pour("a", 1, "b", 1), pour("a", 1), false},
		{pour("b", 1, "a", 1), pour("a", 1), false},
		{pour("a", 1), pour("a", 1, "b", 1), true},
		{pour("a", 0), nil, true},
		{pour("a", 0, "b", 1), pour("b", 1), true},
		{pour("a", 1), pour("a", 0), false},
		{pour("a", 1), pour("a", 0, "b", 1, "a", 1), true},
		{pour("a", 1), pour("a1", 1), false},
		{pour("a", most), pour("a", most), true},
	} {
		if got, e := fluid.Within(c.f, c.g); got != c.want || e != api.OK {
			t.Errorf("Within(%v, %v): %v, %v", c.f, c.g, got, e)
		}
	}
}

// small: all fluids of at most so many parcels, of two labels and volumes 0 to 2.
func small(parcels int) [][]api.Parcel {
	all := [][]api.Parcel{nil}
	longest := all
	for range parcels {
		var longer [][]api.Parcel
		for _, f := range longest {
			for _, label := range []string{"a", "b"} {
				for volume := range 3 {
					longer = append(longer, append(slices.Clone(f), api.Parcel{Label: label, Volume: volume}))
				}
			}
		}
		all, longest = append(all, longer...), longer
	}
	return all
}

// drops of a fluid: one byte a unit of volume. Fluids are alike in plain form if their drops are.
func drops(f []api.Parcel) string {
	var b strings.Builder
	for _, p := range f {
		b.WriteString(strings.Repeat(p.Label, p.Volume))
	}
	return b.String()
}

// gathered: the plain form with such drops.
func gathered(text string) []api.Parcel {
	var f []api.Parcel
	for text != "" {
		rest := strings.TrimLeft(text, text[:1])
		f = append(f, api.Parcel{Label: text[:1], Volume: len(text) - len(rest)})
		text = rest
	}
	return f
}

// P2.1 to P2.3: all small fluids, drop by drop.
func TestDropByDrop(t *testing.T) {
	for _, f := range small(4) {
		all := drops(f)
		if got, e := fluid.Plain(f); !slices.Equal(got, gathered(all)) || e != api.OK {
			t.Fatalf("Plain(%v): %v, %v", f, got, e)
		}
		if got, e := fluid.Total(f); got != len(all) || e != api.OK {
			t.Fatalf("Total(%v): %v, %v", f, got, e)
		}
		a, b := strings.Count(all, "a"), strings.Count(all, "b")
		if got, e := fluid.Sorted(f); drops(got) != strings.Repeat("a", a)+strings.Repeat("b", b) || e != api.OK {
			t.Fatalf("Sorted(%v): %v, %v", f, got, e)
		}
		for volume := range len(all) + 1 {
			taken, left, e := fluid.Draw(f, volume)
			if !slices.Equal(taken, gathered(all[:volume])) || !slices.Equal(left, gathered(all[volume:])) || e != api.OK {
				t.Fatalf("Draw(%v, %d): %v, %v, %v", f, volume, taken, left, e)
			}
			if again, e := fluid.Put(taken, left); !slices.Equal(again, gathered(all)) || e != api.OK {
				t.Fatalf("Draw(%v, %d), put back: %v, %v", f, volume, again, e)
			}
		}
	}
}

// P2.2 and P2.3: all pairs of small fluids: put behind each other, and one within the other.
func TestPairs(t *testing.T) {
	for _, f := range small(3) {
		for _, g := range small(3) {
			one, e := fluid.Put(f, g)
			if !slices.Equal(one, gathered(drops(f)+drops(g))) || e != api.OK {
				t.Fatalf("Put(%v, %v): %v, %v", f, g, one, e)
			}
			other, _ := fluid.Put(g, f)
			s, _ := fluid.Sorted(one)
			if r, e := fluid.Sorted(other); !slices.Equal(s, r) || e != api.OK {
				t.Fatalf("Sorted of Put(%v, %v): %v, turned: %v, %v", f, g, s, r, e)
			}
			strange := strings.Trim(drops(f), drops(g))
			if got, e := fluid.Within(f, g); got != (strange == "") || e != api.OK {
				t.Fatalf("Within(%v, %v): %v, %v", f, g, got, e)
			}
		}
	}
}

// roomy: a copy with spare room, marked so that a change there shows.
func roomy(f []api.Parcel) []api.Parcel {
	long := append(slices.Clone(f), pour("spare", 7, "spare", 7, "spare", 7)...)
	return long[:len(f)]
}

// spoil all of a list.
func spoil(f []api.Parcel) {
	for i := range f {
		f[i] = api.Parcel{Label: "spoilt", Volume: -1}
	}
}

// P2.1 to P2.3: what is handed in is not changed, and no answer shares anything with it or with another answer, spare room too.
func TestMemory(t *testing.T) {
	f, g := roomy(pour("a", 1, "a", 2, "b", 3)), roomy(pour("b", 1, "c", 1))
	wholeF, wholeG := slices.Clone(f[:cap(f)]), slices.Clone(g[:cap(g)])
	var answers [][]api.Parcel
	keep := func(f []api.Parcel, e api.Errno) {
		if e != api.OK {
			t.Error(e)
		}
		answers = append(answers, f[:cap(f)])
	}
	for range 2 {
		keep(fluid.Plain(f))
		keep(fluid.Plain(g))
		keep(fluid.Put(f, g))
		keep(fluid.Put(nil, g))
		keep(fluid.Put(f, nil))
		keep(fluid.Sorted(f))
		for _, volume := range []int{0, 2, 3, 4, 6} {
			taken, left, e := fluid.Draw(f, volume)
			keep(taken, e)
			keep(left, e)
		}
	}
	fluid.Within(f, g)
	fluid.Share(f, "a")
	for i, a := range answers {
		rest := fmt.Sprint(answers[i+1:])
		spoil(a)
		if fmt.Sprint(answers[i+1:]) != rest {
			t.Errorf("answer %d is shared with a later one", i)
		}
	}
	if !slices.Equal(f[:cap(f)], wholeF) || !slices.Equal(g[:cap(g)], wholeG) {
		t.Errorf("handed in, and changed: %v, %v", f[:cap(f)], g[:cap(g)])
	}
}
