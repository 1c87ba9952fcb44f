package book_test

import (
	"bytes"
	"slices"
	"testing"

	"workcell/api"
	"workcell/book"
)

// P21.2: books, byte by byte.
func TestWrite(t *testing.T) {
	for want, l := range map[string][]api.Action{
		"CELL": nil,
		// 116 + 2 105 + 3 112 = 662 = 2 256 + 150
		"CELL\x03\xfctip\x02\x96": {tip},
		// 100 + 2 114 + 3 111 + 4 112 = 1109 = 4 256 + 85
		"CELL\x03\xfctip\x02\x96\x04\xfbdrop\x04\x55": {tip, drop},
		// 119 + 2 97 + 3 105 + 4 116 + 5 32 + 6 49 = 1546 = 6 256 + 10
		"CELL\x06\xf9wait 1\x06\x0a": {wait(1)},
	} {
		if b := written(t, l...); string(b) != want {
			t.Errorf("Write %v: %q, wanted %q", l, b, want)
		}
		opens(t, []byte(want), len(want), l...)
	}
	var all []api.Action
	var lines []string
	for _, kind := range kinds() {
		a := plainOf(kind)
		all, lines = append(all, a), append(lines, lineOf(a))
	}
	if b := written(t, all...); !bytes.Equal(b, bookOf(lines...)) {
		t.Errorf("Write %v: %q", all, b)
	}
}

// P21.2: the longest line, and those with the greatest sums.
func TestLongLines(t *testing.T) {
	for want, a := range map[string]api.Action{
		"CELL\x27\xd8fill 12 P24 zzzzzzzzzzzzzzzz 1000000000\xf1\x8e": fill(last, "zzzzzzzzzzzzzzzz", full),   // 241 256 + 142
		"CELL\x26\xd9fill 12 P24 zzzzzzzzzzzzzzzz 999999999\xf4\xe2":  fill(last, "zzzzzzzzzzzzzzzz", full-1), // 244 256 + 226
	} {
		if b := written(t, a); string(b) != want {
			t.Errorf("Write %v: %q", a, b)
		}
		opens(t, []byte(want), len(want), a)
	}
	for _, a := range []api.Action{fill(last, "zzzzzzzzzzzzzzz9", full-1), draw(last, full), shake(full, full)} {
		if b := written(t, a); !bytes.Equal(b, bookOf(lineOf(a))) {
			t.Errorf("Write %v: %q", a, b)
		}
	}
}

// P21.2: the greatest book, and one that has a byte more.
func TestWriteSize(t *testing.T) {
	for size := api.MaxBook - 20; size <= api.MaxBook+20; size++ {
		lines, l := long(size)
		b := bookOf(lines...)
		if len(b) != size {
			t.Fatalf("%d bytes, not %d", len(b), size)
		}
		got, e := book.Write(l)
		if size > api.MaxBook {
			if len(got) != 0 || e != api.ErrSize {
				t.Errorf("Write %d bytes: %d, %v", size, len(got), e)
			}
			stays(t, b, api.ErrSize)
			continue
		}
		if !bytes.Equal(got, b) || e != api.OK {
			t.Errorf("Write %d bytes: %d, %v", size, len(got), e)
		}
		opens(t, b, size, l...)
	}
}

// P21.2: the first action's fault, ahead of what is too long.
func TestWriteFaults(t *testing.T) {
	wrong := map[api.Errno]api.Action{
		api.ErrKind:  {Kind: api.Transfer},
		api.ErrRange: wait(-1),
		api.ErrName:  fill(pA1, "A", 5),
		api.ErrForm:  {Kind: api.Tip, Time: 1},
	}
	_, l := long(api.MaxBook + 1)
	l = append(l, l...)
	for first, a := range wrong {
		for _, b := range wrong {
			for _, at := range []int{0, 1, 2000, len(l) / 2, len(l)} {
				all := append(slices.Insert(slices.Clone(l), at, a), b)
				if got, e := book.Write(all); len(got) != 0 || e != first {
					t.Errorf("Write, %v at %d: %d, %v; wanted %v", a, at, len(got), e, first)
				}
			}
		}
	}
	if got, e := book.Write(l); len(got) != 0 || e != api.ErrSize {
		t.Errorf("Write: %d, %v", len(got), e)
	}
}

// P21.2: what is no book, and what is the least one.
func TestOpenHead(t *testing.T) {
	for _, text := range []string{"", "C", "CEL", "cell", "CELl", " CELL", "CELK", "DELL", "LLEC", "\x03\xfctip\x02\x96", "CE\x03\xfctip\x02\x96"} {
		stays(t, []byte(text), api.ErrForm)
	}
	stays(t, nil, api.ErrForm)
	stays(t, make([]byte, api.MaxBook), api.ErrForm)
	stays(t, make([]byte, api.MaxBook+1), api.ErrSize)
	stays(t, bytes.Repeat([]byte("CELL"), api.MaxBook), api.ErrSize)
	opens(t, []byte("CELL"), 4)
	opens(t, []byte("CELLCELL"), 4)
	opens(t, bytes.Repeat([]byte("CELL"), api.MaxBook/4), 4)
}

// P21.2: an entry that is not whole, not right or no action's, and what stands behind it, does not count.
func TestOpenStops(t *testing.T) {
	ahead := bookOf("tip", "draw 1 A1 5")
	wrong := []string{
		"\x03", "\x03\xfc", "\x03\xfctip", "\x03\xfctip\x02", "\x03\xfcti", // not whole
		"\x03\xfdtip\x02\x96", "\x04\xfctip\x02\x96", "\x04\xfbtip\x02\x96", "\x02\xfdtip\x02\x96", "\x03\x03tip\x02\x96", "\xfc\x03tip\x02\x96", "\x00\x00tip\x02\x96", // another length
		"\x03\xfctip\x02\x97", "\x03\xfctip\x03\x96", "\x03\xfctip\x96\x02", "\x03\xfctip\x00\x00", "\x03\xfctiq\x02\x96", "\x03\xfcTip\x02\x96", // another sum
		"\x00", "\x00\xff", "\x00\xff\x00", "\x00\xff\x00\x00", "\x00\xff\x00\x01", "\xff\x00", "\xff", "\xfe", // the least and the greatest
		"\n", "CELL",
	}
	for _, line := range unlines() {
		if len(line) <= 255 {
			wrong = append(wrong, string(entry(line)))
		}
	}
	for _, w := range wrong {
		for _, behind := range [][]byte{nil, entry("drop"), bookOf("drop"), bytes.Repeat([]byte{255}, 300)} {
			opens(t, slices.Concat(ahead, []byte(w), behind), len(ahead), tip, draw(pA1, 5))
			opens(t, slices.Concat([]byte("CELL"), []byte(w), behind), 4)
		}
	}
}

// P21.2: lines of all lengths may be whole and right, and still be no action's.
func TestOpenLengths(t *testing.T) {
	for n := range 256 {
		opens(t, bookOf("tip", string(bytes.Repeat([]byte{0xff}, n)), "drop"), 11, tip)
	}
}

// P21.2: one entry more, in the place of what does not count.
func TestAdd(t *testing.T) {
	for _, ahead := range [][]string{nil, {"tip"}, {"tip", "draw 1 A1 5", "drop"}} {
		for _, behind := range []string{"", "\x04", "\x04\xfbdrop\x04", "\x04\xfbdrop\x04\x56", "\x04\xfbdrip\x04\x4f\x03\xfctip\x02\x96", string(entry("tip 1")), string(entry("draw 1 a1 5"))} {
			for _, kind := range kinds() {
				a := plainOf(kind)
				b := append(bookOf(ahead...), behind...)
				if got, e := book.Add(b, a); !bytes.Equal(got, bookOf(append(ahead[:len(ahead):len(ahead)], lineOf(a))...)) || e != api.OK {
					t.Errorf("Add %v to %q: %q, %v", a, b, got, e)
				}
			}
		}
	}
	// One by one, they are what Write tells.
	d := die(9)
	b := []byte("CELL")
	l := d.actions(40)
	for i, a := range l {
		b, _ = book.Add(b, a)
		if want := written(t, l[:i+1]...); !bytes.Equal(b, want) {
			t.Fatalf("Add %v: %q, not %q", a, b, want)
		}
	}
}

// P21.2: Open's errors, then Line's, then ErrSize.
func TestAddFaults(t *testing.T) {
	for left := range 30 {
		lines, l := long(api.MaxBook - left)
		b := bookOf(lines...)
		got, e := book.Add(b, tip)
		if left < 7 {
			if len(got) != 0 || e != api.ErrSize {
				t.Errorf("Add, %d bytes left: %d, %v", left, len(got), e)
			}
			if got, e := book.Write(append(l, tip)); len(got) != 0 || e != api.ErrSize {
				t.Errorf("Write, %d bytes left: %d, %v", left, len(got), e)
			}
		} else if want := written(t, append(l, tip)...); !bytes.Equal(got, want) || e != api.OK {
			t.Errorf("Add, %d bytes left: %d, %v", left, len(got), e)
		}
		for want, a := range map[api.Errno]api.Action{
			api.ErrKind: {}, api.ErrRange: warm(full + 1), api.ErrName: fill(pA1, "1", 1), api.ErrForm: {Kind: api.Drop, Value: 1},
		} {
			if got, e := book.Add(b, a); len(got) != 0 || e != want {
				t.Errorf("Add %v, %d bytes left: %d, %v; wanted %v", a, left, len(got), e, want)
			}
		}
	}
	// What does not count makes a book too long for Open, but not for one entry more.
	torn := slices.Concat(bookOf("tip"), make([]byte, api.MaxBook-11))
	if got, e := book.Add(torn, drop); !bytes.Equal(got, bookOf("tip", "drop")) || e != api.OK {
		t.Errorf("Add: %q, %v", got, e)
	}
	stays(t, append(torn, 0), api.ErrSize)
	stays(t, append([]byte("cell"), torn[:40]...), api.ErrForm)
}
