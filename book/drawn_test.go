package book_test

import (
	"bytes"
	"fmt"
	"math"
	"slices"
	"testing"

	"workcell/api"
	"workcell/book"
	"workcell/mean"
)

// holdLine against a slow one; what is told is read back.
func holdLine(t *testing.T, a api.Action) api.Errno {
	t.Helper()
	want, e := slowLine(a)
	if line, f := book.Line(a); line != want || f != e {
		t.Errorf("Line %v: %q, %v; wanted %q, %v", a, line, f, want, e)
	}
	if back, f := book.Action(want); e == api.OK && (back != a || f != api.OK) {
		t.Errorf("Action %q: %v, %v; wanted %v", want, back, f, a)
	}
	return e
}

// holdAction against the oracle; what is read is told again, to the byte.
func (o oracle) holdAction(t *testing.T, line string) api.Errno {
	t.Helper()
	want, e := o.action(line)
	if a, f := book.Action(line); a != want || f != e {
		t.Errorf("Action %q: %v, %v; wanted %v, %v", line, a, f, want, e)
	}
	if again, f := book.Line(want); e == api.OK && (again != line || f != api.OK) {
		t.Errorf("Line %v: %q, %v; wanted %q", want, again, f, line)
	}
	return e
}

// holdOpen against the oracle; and what Add makes of it.
func (o oracle) holdOpen(t *testing.T, b []byte) ([]api.Action, api.Errno) {
	t.Helper()
	l, n, e := o.open(b)
	if got, m, f := book.Open(b); !slices.Equal(got, l) || m != n || f != e {
		t.Fatalf("Open %q: %v, %d, %v; wanted %v, %d, %v", b, got, m, f, l, n, e)
	}
	longer, f := book.Add(b, tip)
	switch {
	case e != api.OK:
		if len(longer) != 0 || f != e {
			t.Fatalf("Add to %q: %q, %v; wanted %v", b, longer, f, e)
		}
	case n+7 > api.MaxBook:
		if len(longer) != 0 || f != api.ErrSize {
			t.Fatalf("Add to %q: %q, %v", b, longer, f)
		}
	case !bytes.Equal(longer, slices.Concat(b[:n], entry("tip"))) || f != api.OK:
		t.Fatalf("Add to %q: %q, %v", b, longer, f)
	}
	return l, e
}

// P21.1: drawn actions, with one number or the label another.
func TestDrawnLines(t *testing.T) {
	d := die(3)
	seen := map[api.Errno]int{}
	for range 40000 {
		a := d.action()
		seen[holdLine(t, a)]++
		for range 1 + d.n(2) {
			if d.n(7) == 0 {
				a.Label = pick(&d, "", "a", "A", "b c", d.label(), d.label()+"z")
				continue
			}
			*pick(&d, &a.Kind, &a.Place.Slot, &a.Place.Spot.Row, &a.Place.Spot.Column, &a.Volume, &a.Value, &a.Time) =
				pick(&d, 0, 0, 1, -1, 5, 12, 13, 15, 16, 23, 24, full, full+1, math.MinInt, math.MaxInt)
		}
		seen[holdLine(t, a)]++
	}
	for _, e := range []api.Errno{api.OK, api.ErrKind, api.ErrRange, api.ErrName, api.ErrForm} {
		if seen[e] < 100 {
			t.Errorf("%v comes %d times", e, seen[e])
		}
	}
}

// P21.1: lines in which something is put, left out or changed.
func TestChangedLines(t *testing.T) {
	d, o := die(4), newOracle()
	seen := map[api.Errno]int{}
	for range 40000 {
		line := lineOf(d.action())
		o.holdAction(t, line)
		for range 1 + d.n(2) {
			i := d.n(len(line) + 1)
			j := min(len(line), i+d.n(3))
			line = line[:i] + pick(&d, "", "0", "1", "9", "-", " ", "A", "a", "P", "Q", "z", "tip", "\n", "\xff") + line[j:]
		}
		seen[o.holdAction(t, line)]++
	}
	if seen[api.OK] < 1000 || seen[api.ErrForm] < 1000 {
		t.Error(seen)
	}
}

// What comes of P21.2: what is written is opened again; of any beginning with CELL the first actions come.
func TestBeginnings(t *testing.T) {
	d, o := die(5), newOracle()
	for range 30 {
		l := d.actions(1 + d.n(9))
		b := written(t, l...)
		opens(t, b, len(b), l...)
		if got, _ := o.holdOpen(t, b); !slices.Equal(got, l) {
			t.Fatalf("%v, not %v", got, l)
		}
		for size := 4; size < len(b); size++ {
			n := 0
			for len(written(t, l[:n+1]...)) <= size {
				n++
			}
			opens(t, b[:size], len(written(t, l[:n]...)), l[:n]...)
		}
	}
}

// What comes of P21.2: if one byte behind CELL is another one, the first actions come: all of the entries ahead of it.
func TestAnotherByte(t *testing.T) {
	d := die(6)
	for range 6 {
		l := append(d.actions(d.n(4)), fill(last, "zzzzzzzzzzzzzzzz", full-d.n(9)), d.action())
		b := written(t, l...)
		n, begin := 0, 4
		for at := 4; at < len(b); at++ {
			if next := len(written(t, l[:n+1]...)); at == next {
				n, begin = n+1, next
			}
			for more := 1; more < 256; more++ {
				b[at] += byte(more)
				opens(t, b, begin, l[:n]...)
				b[at] -= byte(more)
			}
		}
	}
}

// P21.2: books in which something is put, left out or changed, and entries of lines that are no action's.
func TestChangedBooks(t *testing.T) {
	d, o := die(7), newOracle()
	lengths := map[int]int{}
	for range 4000 {
		b := written(t, d.actions(d.n(6))...)
		for range 1 + d.n(2) {
			i := d.n(len(b) + 1)
			j := min(len(b), i+d.n(3))
			piece := pick(&d, nil, []byte{byte(d.n(256))}, entry("tip"), entry("tip "), entry(lineOf(d.action())), []byte("CELL"))
			b = slices.Concat(b[:i], piece, b[j:])
		}
		l, _ := o.holdOpen(t, b)
		lengths[len(l)]++
	}
	for n := range 5 {
		if lengths[n] < 50 {
			t.Error(lengths)
		}
	}
}

// P21.3: drawn books, held against drawn traces.
func TestDrawnRecovers(t *testing.T) {
	d := die(8)
	seen := map[api.Errno]int{}
	for range 3000 {
		l := drawnTrace(&d)
		b := written(t, l[:d.n(len(l)+1)]...)
		b = b[:len(b)-d.n(min(len(b)-3, 12))]
		if d.n(3) == 0 {
			b[d.n(len(b))] += byte(d.n(2))
		}
		if d.n(4) == 0 {
			b, _ = book.Add(b, pick(&d, tip, drop, wait(1)))
		}
		if d.n(4) == 0 {
			i := d.n(len(l))
			l[i] = pick(&d, tip, drop, wait(1), draw(pA1, 1))
		}
		seen[holdRecover(t, l, b)]++
	}
	for _, e := range []api.Errno{api.OK, api.ErrOrder, api.ErrForm, api.ErrTip} {
		if seen[e] < 50 {
			t.Errorf("%v comes %d times", e, seen[e])
		}
	}
}

// drawnTrace: actions, most often such as may be on the table.
func drawnTrace(d *die) []api.Action {
	l := []api.Action{fill(pA1, "a", 50)}
	for range 1 + d.n(3) {
		v := 1 + d.n(15)
		l = append(l, tip, draw(pA1, v), put(pick(d, qA1, pB3), v-d.n(3)/2), drop, pick(d, wait(1), warm(5), shake(2, 3), hold(4)))
	}
	return l
}

// holdRecover against a slow one.
func holdRecover(t *testing.T, l []api.Action, b []byte) api.Errno {
	t.Helper()
	_, _, e := mean.Run(table(), l)
	done, _, f := book.Open(b)
	if e == api.OK {
		e = f
	}
	for i := range done {
		if e == api.OK && (i == len(l) || done[i] != l[i]) {
			e = api.ErrOrder
		}
	}
	if e != api.OK {
		denies(t, table(), l, b, e)
		return e
	}
	var s api.State
	for _, a := range done {
		s, _ = mean.Apply(table(), s, a)
	}
	recovers(t, table(), l, b, len(done), s)
	return e
}

// P21.1, P21.2, P21.3: nothing that is handed in is changed or kept, and no answer shares anything with another one.
func TestMemory(t *testing.T) {
	d := roomy(table(), api.Seat{Name: "spare"})
	l := roomy(done(), api.Action{Kind: -7})
	b := roomy(append(written(t, l[:5]...), "torn"...), 77)
	before := fmt.Sprint(d[:cap(d)], l[:cap(l)], b[:cap(b)])
	type told struct {
		book, longer []byte
		actions      []api.Action
		state        api.State
	}
	all := func() told {
		w, _ := book.Write(l)
		a, _ := book.Add(b, tip)
		o, _, _ := book.Open(b)
		_, s, _ := book.Recover(d, l, b)
		return told{w, a, o, s}
	}
	first := all()
	want := fmt.Sprint(first)
	spoilt := all()
	clear(spoilt.book[:cap(spoilt.book)])
	clear(spoilt.longer[:cap(spoilt.longer)])
	clear(spoilt.actions[:cap(spoilt.actions)])
	clear(spoilt.state.Wells[0].Fluid)
	clear(spoilt.state.Held[:cap(spoilt.state.Held)])
	clear(spoilt.state.Touched[:cap(spoilt.state.Touched)])
	if now := fmt.Sprint(d[:cap(d)], l[:cap(l)], b[:cap(b)]); now != before {
		t.Errorf("handed in, and changed: %s, was %s", now, before)
	}
	if again := fmt.Sprint(all()); again != want {
		t.Errorf("a later call tells %s, not %s", again, want)
	}
	clear(d)
	clear(l)
	clear(b)
	if now := fmt.Sprint(first); now != want || len(first.longer) == 0 || len(first.actions) != 5 {
		t.Errorf("shared: %s, was %s", now, want)
	}
}

// FuzzBook: texts of any form, as a line, as an entry's line, and as a book; with the right sums, too.
func FuzzBook(f *testing.F) {
	f.Add("draw 1 A1 500")
	f.Add("fill 12 P24 water 1000000000")
	f.Add("\x03\xfctip\x02\x96\x04\xfbdrop\x04\x55")
	for _, line := range unlines() {
		f.Add(line)
	}
	o := newOracle()
	f.Fuzz(func(t *testing.T, text string) {
		o.holdAction(t, text)
		o.holdOpen(t, []byte(text))
		o.holdOpen(t, []byte("CELL"+text))
		if len(text) < 256 {
			o.holdOpen(t, bookOf("drop", text, "tip"))
		}
		b := []byte("CELL")
		for line := range bytes.SplitSeq([]byte(text), []byte("\n")) {
			if len(line) < 256 {
				b = append(b, entry(string(line))...)
			}
		}
		o.holdOpen(t, b)
	})
}
