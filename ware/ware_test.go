package ware_test

import (
	"fmt"
	"math"
	"slices"
	"strings"
	"testing"

	"workcell/api"
	"workcell/ware"
)

const example = "p plate 8 12 14380 11240 9000 127760 85480 14220 10670 360000"

// plate is the ware that the example tells.
func plate() api.Ware {
	return api.Ware{
		Name: "p", Kind: api.Plate, Rows: 8, Columns: 12, X: 14380, Y: 11240, Pitch: 9000,
		Width: 127760, Length: 85480, Height: 14220, Deep: 10670, Capacity: 360000,
	}
}

// trash: one well in the corner of a ware.
func trash() api.Ware {
	return api.Ware{Name: "t", Kind: api.Trash, Rows: 1, Columns: 1, Width: 1, Length: 1, Height: 1}
}

// greatest ware that may be.
func greatest() api.Ware {
	const most = api.MaxWare
	return api.Ware{
		Name: "z123456789abcdef", Kind: api.Rack, Rows: 16, Columns: 24, X: most - 23*8000, Y: most - 15*8000, Pitch: 8000,
		Width: most, Length: most, Height: most, Deep: most, Capacity: api.MaxVolume,
	}
}

// judgement: a ware, and what Check must say of it.
type judgement struct {
	w    api.Ware
	want api.Errno
}

// changed: a ware that differs from another.
func changed(w api.Ware, change func(*api.Ware)) api.Ware {
	change(&w)
	return w
}

// named: the example under names that are labels, and names that are none.
func named() []judgement {
	var list []judgement
	add := func(want api.Errno, names ...string) {
		for _, n := range names {
			list = append(list, judgement{changed(plate(), func(w *api.Ware) { w.Name = n }), want})
		}
	}
	sixteen := strings.Repeat("z", 16)
	add(api.OK, "a", "z", "a0", "z9", "plate", sixteen, "b0123456789xyz")
	add(api.ErrName, "", sixteen+"z", "9", "9a", "A", "aB", "a_b", "a b", " a", "a ", "a\n", "a\x00",
		"`", "{", "a/", "a:", "\u00e4", "a\u00e4", "a\u0660", "a\xff", "\xff")
	return list
}

// kinds: wares of kinds that there are, and that there are not.
func kinds() []judgement {
	var list []judgement
	add := func(w api.Ware, want api.Errno, all ...int) {
		for _, k := range all {
			list = append(list, judgement{changed(w, func(w *api.Ware) { w.Kind = k }), want})
		}
	}
	add(plate(), api.OK, api.Plate, api.Rack)
	add(plate(), api.ErrRange, api.Trash)
	add(trash(), api.OK, api.Trash)
	add(trash(), api.ErrRange, api.Plate, api.Rack)
	for _, w := range []api.Ware{plate(), trash()} {
		add(w, api.ErrKind, 0, 4, -1, math.MinInt, math.MaxInt)
	}
	return list
}

// edges of a ware's number: the least and the greatest that may be, and what is said of those beyond.
type edges struct {
	field     func(*api.Ware) *int
	low, high int
	want      api.Errno
}

// bounded: the numbers of wares, each at its edges and beyond, where nothing else is wrong.
func bounded() []judgement {
	wide := changed(plate(), func(w *api.Ware) {
		w.Rows, w.Columns, w.X, w.Y, w.Pitch, w.Deep = 1, 1, 0, 0, 0, 0
		w.Width, w.Length, w.Height = api.MaxWare, api.MaxWare, api.MaxWare
	})
	two := changed(wide, func(w *api.Ware) { w.Columns, w.Pitch = 2, 1 })
	down := changed(wide, func(w *api.Ware) { w.Rows, w.Pitch = 2, 1 })
	many := changed(wide, func(w *api.Ware) { w.Rows, w.Columns, w.Pitch = 2, 2, 1 })
	rows := func(w *api.Ware) *int { return &w.Rows }
	columns := func(w *api.Ware) *int { return &w.Columns }
	pitch := func(w *api.Ware) *int { return &w.Pitch }
	capacity := func(w *api.Ware) *int { return &w.Capacity }
	var list []judgement
	add := func(w api.Ware, all ...edges) {
		for _, e := range all {
			for _, n := range []int{e.low, e.high} {
				list = append(list, judgement{changed(w, func(w *api.Ware) { *e.field(w) = n }), api.OK})
			}
			for _, n := range []int{e.low - 1, e.high + 1, math.MinInt, math.MaxInt} {
				list = append(list, judgement{changed(w, func(w *api.Ware) { *e.field(w) = n }), e.want})
			}
		}
	}
	add(wide,
		edges{func(w *api.Ware) *int { return &w.X }, 0, api.MaxWare, api.ErrRange},
		edges{func(w *api.Ware) *int { return &w.Y }, 0, api.MaxWare, api.ErrRange},
		edges{func(w *api.Ware) *int { return &w.Deep }, 0, api.MaxWare, api.ErrRange},
		edges{func(w *api.Ware) *int { return &w.Width }, 1, api.MaxWare, api.ErrRange},
		edges{func(w *api.Ware) *int { return &w.Length }, 1, api.MaxWare, api.ErrRange},
		edges{func(w *api.Ware) *int { return &w.Height }, 1, api.MaxWare, api.ErrRange},
		edges{pitch, 0, api.MaxWare, api.ErrRange},
		edges{capacity, 1, api.MaxVolume, api.ErrRange})
	add(changed(wide, func(w *api.Ware) { w.Pitch = 1 }),
		edges{rows, 1, api.MaxRows, api.ErrCount}, edges{columns, 1, api.MaxColumns, api.ErrCount})
	add(two, edges{pitch, 1, api.MaxWare, api.ErrRange})
	add(down, edges{pitch, 1, api.MaxWare, api.ErrRange})
	add(many, edges{pitch, 1, api.MaxWare, api.ErrRange})
	add(changed(plate(), func(w *api.Ware) { w.Kind = api.Rack }), edges{capacity, 1, api.MaxVolume, api.ErrRange})
	add(trash(), edges{capacity, 0, 0, api.ErrRange})
	return list
}

// fitted: wares whose wells are just within, and just not.
func fitted() []judgement {
	var list []judgement
	add := func(w api.Ware, want api.Errno, changes ...func(*api.Ware)) {
		for _, c := range changes {
			list = append(list, judgement{changed(w, c), want})
		}
	}
	add(plate(), api.OK,
		func(w *api.Ware) {},
		func(w *api.Ware) { w.X = w.Width - 11*w.Pitch },
		func(w *api.Ware) { w.Width = w.X + 11*w.Pitch },
		func(w *api.Ware) { w.Y = w.Length - 7*w.Pitch },
		func(w *api.Ware) { w.Length = w.Y + 7*w.Pitch },
		func(w *api.Ware) { w.X, w.Y = 0, 0 },
		func(w *api.Ware) { w.Deep = w.Height },
		func(w *api.Ware) { w.Deep = 0 })
	add(plate(), api.ErrSize,
		func(w *api.Ware) { w.X = w.Width - 11*w.Pitch + 1 },
		func(w *api.Ware) { w.Width = w.X + 11*w.Pitch - 1 },
		func(w *api.Ware) { w.Y = w.Length - 7*w.Pitch + 1 },
		func(w *api.Ware) { w.Length = w.Y + 7*w.Pitch - 1 },
		func(w *api.Ware) { w.Deep = w.Height + 1 },
		func(w *api.Ware) { w.Pitch = api.MaxWare },
		func(w *api.Ware) { w.Rows = 16 },
		func(w *api.Ware) { w.Columns = 24 })
	add(trash(), api.OK,
		func(w *api.Ware) {},
		func(w *api.Ware) { w.X, w.Y, w.Deep = 1, 1, 1 },
		func(w *api.Ware) { w.Pitch = api.MaxWare },
		func(w *api.Ware) { w.Rows, w.Columns, w.Pitch = 2, 2, 1 })
	add(trash(), api.ErrSize,
		func(w *api.Ware) { w.X = 2 },
		func(w *api.Ware) { w.Y = 2 },
		func(w *api.Ware) { w.Deep = 2 })
	add(greatest(), api.OK, func(w *api.Ware) {})
	return list
}

// orderly: wares with more than one thing wrong.
func orderly() []judgement {
	var list []judgement
	wrongs := []struct {
		spoil func(*api.Ware)
		want  api.Errno
	}{
		{func(w *api.Ware) { w.Name = "P" }, api.ErrName},
		{func(w *api.Ware) { w.Kind = 4 }, api.ErrKind},
		{func(w *api.Ware) { w.Rows = 17 }, api.ErrCount},
		{func(w *api.Ware) { w.Columns = 0 }, api.ErrCount},
		{func(w *api.Ware) { w.Capacity = 0 }, api.ErrRange},
		{func(w *api.Ware) { w.Height = 0 }, api.ErrRange},
		{func(w *api.Ware) { w.X = w.Width }, api.ErrSize},
		{func(w *api.Ware) { w.Deep = w.Height + 1 }, api.ErrSize},
	}
	for i, first := range wrongs {
		for _, second := range wrongs[i:] {
			w := changed(plate(), second.spoil)
			list = append(list, judgement{changed(w, first.spoil), first.want})
		}
	}
	return append(list,
		judgement{api.Ware{}, api.ErrName},
		judgement{api.Ware{Name: "a"}, api.ErrKind},
		judgement{api.Ware{Name: "a", Kind: api.Trash}, api.ErrCount},
		judgement{api.Ware{Name: "a", Kind: api.Trash, Rows: 1, Columns: 1}, api.ErrRange})
}

// judged: all of them.
func judged() []judgement {
	return slices.Concat(named(), kinds(), bounded(), fitted(), orderly())
}

// P3.1: what is wrong, if anything, and which of several errors.
func TestCheck(t *testing.T) {
	for _, c := range judged() {
		if e := ware.Check(c.w); e != c.want {
			t.Errorf("Check(%+v): %v, not %v", c.w, e, c.want)
		}
	}
}

// P3.1: a ware is roomy enough just if each of its middles lies within.
func TestCheckMiddles(t *testing.T) {
	for rows := 1; rows <= 3; rows++ {
		for columns := 1; columns <= 3; columns++ {
			for code := range 3 * 3 * 3 * 5 * 5 {
				w := trash()
				w.Rows, w.Columns, w.X, w.Y, w.Pitch = rows, columns, code%3, code/3%3, 1+code/9%3
				w.Width, w.Length = 1+code/27%5, 1+code/135
				want := api.OK
				for c := range columns {
					for r := range rows {
						if w.X+c*w.Pitch > w.Width || w.Y+r*w.Pitch > w.Length {
							want = api.ErrSize
						}
					}
				}
				if e := ware.Check(w); e != want {
					t.Fatalf("Check(%+v): %v, not %v", w, e, want)
				}
			}
		}
	}
}

// P3.2, P3.4: what Check says, every call says, ahead of its own errors, and answers nothing else.
func TestAllRefuse(t *testing.T) {
	for _, c := range judged() {
		if c.want == api.OK {
			continue
		}
		text, e1 := ware.Show(c.w)
		point, e2 := ware.Middle(c.w, api.Spot{Row: -1})
		spots, e3 := ware.All(c.w)
		if text != "" || point != (api.Point{}) || len(spots) != 0 {
			t.Errorf("%+v: %q, %v, %v beside an error", c.w, text, point, spots)
		}
		if e1 != c.want || e2 != c.want || e3 != c.want {
			t.Errorf("%+v: %v, %v, %v, not %v", c.w, e1, e2, e3, c.want)
		}
	}
}

// P3.2: how wares are told.
func TestShow(t *testing.T) {
	for _, c := range []struct {
		w    api.Ware
		want string
	}{
		{plate(), example},
		{trash(), "t trash 1 1 0 0 0 1 1 1 0 0"},
		{greatest(), "z123456789abcdef rack 16 24 16000 80000 8000 200000 200000 200000 200000 1000000000"},
		{changed(plate(), func(w *api.Ware) { w.Name, w.Kind = "plate", api.Rack }), "plate rack" + example[len("p plate"):]},
	} {
		if text, e := ware.Show(c.w); text != c.want || e != api.OK {
			t.Errorf("Show(%+v): %q, %v, not %q", c.w, text, e, c.want)
		}
		if w, e := ware.Read(c.want); w != c.w || e != api.OK {
			t.Errorf("Read(%q): %+v, %v, not %+v", c.want, w, e, c.w)
		}
	}
}

// P3.2: each number has its own place in the text.
func TestReadFields(t *testing.T) {
	got, e := ware.Read("a rack 2 3 4 5 6 21 22 23 10 11")
	want := api.Ware{
		Name: "a", Kind: api.Rack, Rows: 2, Columns: 3, X: 4, Y: 5, Pitch: 6,
		Width: 21, Length: 22, Height: 23, Deep: 10, Capacity: 11,
	}
	if got != want || e != api.OK {
		t.Errorf("%+v, %v, not %+v", got, e, want)
	}
}

// P3.2: what comes of it: what is shown is read again.
func TestShownIsRead(t *testing.T) {
	for _, c := range judged() {
		if c.want != api.OK {
			continue
		}
		text, e := ware.Show(c.w)
		if e != api.OK {
			t.Errorf("Show(%+v): %v", c.w, e)
		}
		if w, e := ware.Read(text); w != c.w || e != api.OK {
			t.Errorf("Read(%q): %+v, %v, not %+v", text, w, e, c.w)
		}
	}
}

// P3.2: texts that do not tell a ware.
func TestReadForm(t *testing.T) {
	texts := []string{
		"", " ", "p", "p plate", strings.Repeat(" ", 11), strings.Repeat(" ", 99),
		" " + example, example + " ", example + " 1", example + "\n", "\n" + example,
		strings.Replace(example, " ", "  ", 1), strings.Replace(example, " 8 ", "  8 ", 1),
		strings.Replace(example, " ", "\t", 1), strings.ReplaceAll(example, " ", "\n"), strings.ReplaceAll(example, " ", "\u00a0"),
		strings.Replace(example, " 12", "", 1), strings.Replace(example, " 12 ", "  ", 1),
		strings.Replace(example, "plate ", "", 1), strings.Replace(example, "plate", "", 1),
		example[:strings.LastIndex(example, " ")], example[:strings.LastIndex(example, " ")+1],
	}
	for _, j := range named() {
		if j.want != api.OK {
			texts = append(texts, j.w.Name+strings.TrimPrefix(example, "p"))
		}
	}
	for _, kind := range []string{"Plate", "PLATE", "plates", "plat", "bowl", "1", "rack\x00", "p", "Trash", "rackk", "\xff"} {
		texts = append(texts, strings.Replace(example, "plate", kind, 1))
	}
	for i := 2; i < 12; i++ {
		for _, n := range []string{
			"", "00", "01", "08", "-1", "+8", "-0", "8.", "8.0", "8e0", "0x8", "1_0", "x", "8x", "x8", "/", ":", "8/", "8:",
			"\u0668", "8\xff", "\xff", "12345678901", "00000000008", "99999999999999999999", "0000000000",
		} {
			words := strings.Split(example, " ")
			words[i] = n
			texts = append(texts, strings.Join(words, " "))
		}
	}
	for _, text := range texts {
		if w, e := ware.Read(text); w != (api.Ware{}) || e != api.ErrForm {
			t.Errorf("Read(%q): %+v, %v", text, w, e)
		}
	}
}

// P3.2: what is told as it should be is read, and then what Check says.
func TestReadRefuses(t *testing.T) {
	for _, c := range []struct {
		text string
		want api.Errno
	}{
		{"p plate 0 12 14380 11240 9000 127760 85480 14220 10670 360000", api.ErrCount},
		{"p plate 8 25 14380 11240 9000 127760 85480 14220 10670 360000", api.ErrCount},
		{"p plate 9999999999 12 14380 11240 9000 127760 85480 14220 10670 360000", api.ErrCount},
		{"p plate 8 12 200001 11240 9000 127760 85480 14220 10670 360000", api.ErrRange},
		{"p plate 8 12 14380 9999999999 9000 127760 85480 14220 10670 360000", api.ErrRange},
		{"p plate 8 12 14380 11240 0 127760 85480 14220 10670 360000", api.ErrRange},
		{"p plate 8 12 14380 11240 9000 127760 85480 14220 10670 0", api.ErrRange},
		{"p plate 8 12 14380 11240 9000 127760 85480 14220 10670 1000000001", api.ErrRange},
		{"p trash 8 12 14380 11240 9000 127760 85480 14220 10670 1", api.ErrRange},
		{"p plate 8 12 28761 11240 9000 127760 85480 14220 10670 360000", api.ErrSize},
		{"p plate 8 12 14380 11240 9000 127760 85480 14220 14221 360000", api.ErrSize},
		{"p plate 0 12 200001 11240 9000 127760 85480 14220 14221 01", api.ErrForm},
	} {
		if w, e := ware.Read(c.text); w != (api.Ware{}) || e != c.want {
			t.Errorf("Read(%q): %+v, %v, not %v", c.text, w, e, c.want)
		}
	}
}

// P3.2: a text is read just if it is what is shown of what it tells.
func FuzzRead(f *testing.F) {
	f.Add(example)
	f.Add("t trash 1 1 0 0 0 1 1 1 0 0")
	f.Fuzz(func(t *testing.T, text string) {
		w, e := ware.Read(text)
		if e != api.OK {
			if w != (api.Ware{}) {
				t.Errorf("%+v beside an error", w)
			}
			return
		}
		if again, e := ware.Show(w); again != text || e != api.OK {
			t.Errorf("%q is shown as %q, %v", text, again, e)
		}
	})
}

// P3.3: all spots have names, which are read back, with small letters too.
func TestName(t *testing.T) {
	for row := range api.MaxRows {
		for column := range api.MaxColumns {
			s := api.Spot{Row: row, Column: column}
			want := fmt.Sprintf("%c%d", "ABCDEFGHIJKLMNOP"[row], column+1)
			if name, e := ware.Name(s); name != want || e != api.OK {
				t.Errorf("Name(%v): %q, %v, not %q", s, name, e, want)
			}
			for _, text := range []string{want, strings.ToLower(want)} {
				if back, e := ware.Spot(text); back != s || e != api.OK {
					t.Errorf("Spot(%q): %v, %v, not %v", text, back, e, s)
				}
			}
		}
	}
}

// P3.3: spots that no ware has.
func TestNameRange(t *testing.T) {
	far := []int{-1, 24, 25, 32, math.MinInt, math.MaxInt}
	for _, n := range far {
		for _, s := range []api.Spot{{Row: n}, {Column: n}, {Row: n, Column: n}, {Row: n, Column: 23}, {Row: 15, Column: n}} {
			if name, e := ware.Name(s); name != "" || e != api.ErrRange {
				t.Errorf("Name(%v): %q, %v", s, name, e)
			}
		}
	}
	if name, e := ware.Name(api.Spot{Row: 16}); name != "" || e != api.ErrRange {
		t.Errorf("Name of row 16: %q, %v", name, e)
	}
}

// P3.3: texts of up to three bytes of every kind: a spot just if it is some spot's name.
func TestSpotForm(t *testing.T) {
	names := map[string]api.Spot{}
	for row := range api.MaxRows {
		for column := range api.MaxColumns {
			for _, letter := range []rune{rune('A' + row), rune('a' + row)} {
				names[fmt.Sprintf("%c%d", letter, column+1)] = api.Spot{Row: row, Column: column}
			}
		}
	}
	try := func(text string) {
		want, ok := names[text]
		s, e := ware.Spot(text)
		if s != want || (e == api.OK) != ok || !ok && e != api.ErrForm {
			t.Errorf("Spot(%q): %v, %v", text, s, e)
		}
	}
	try("")
	for a := range 256 {
		try(string([]byte{byte(a)}))
		for b := range 256 {
			try(string([]byte{byte(a), byte(b)}))
			for c := range 256 {
				try(string([]byte{byte(a), byte(b), byte(c)}))
			}
		}
	}
	for _, text := range []string{
		"A001", "A010", "A100", "A111", "A1 ", " A1", "A 1", "A-1", "A+1", "A1.0", "AA1", "\u0391" + "1", "A\u0661", "A1A",
		"A12345678901", "A9999999999", "A4294967297", "A18446744073709551617", "A1\n", "A1\x00", "\uff21" + "1",
		"A" + strings.Repeat("1", 100), strings.Repeat("A", 100),
	} {
		try(text)
	}
}

// P3.4: where middles are, and the floors of wells.
func TestMiddle(t *testing.T) {
	for _, c := range []struct {
		w    api.Ware
		name string
		want api.Point
	}{
		{plate(), "A1", api.Point{X: 14380, Y: 11240, Z: 3550}},
		{plate(), "B1", api.Point{X: 14380, Y: 20240, Z: 3550}},
		{plate(), "A2", api.Point{X: 23380, Y: 11240, Z: 3550}},
		{plate(), "C5", api.Point{X: 50380, Y: 29240, Z: 3550}},
		{plate(), "H12", api.Point{X: 113380, Y: 74240, Z: 3550}},
		{trash(), "A1", api.Point{Z: 1}},
		{greatest(), "A1", api.Point{X: 16000, Y: 80000}},
		{greatest(), "P24", api.Point{X: api.MaxWare, Y: api.MaxWare}},
	} {
		s, e := ware.Spot(c.name)
		if e != api.OK {
			t.Fatal(c.name, e)
		}
		if m, e := ware.Middle(c.w, s); m != c.want || e != api.OK {
			t.Errorf("Middle(%+v, %s): %v, %v, not %v", c.w, c.name, m, e, c.want)
		}
	}
}

// P3.4: spots that the ware does not have.
func TestMiddleRange(t *testing.T) {
	for _, c := range []struct {
		w             api.Ware
		rows, columns int
	}{{plate(), 8, 12}, {trash(), 1, 1}, {greatest(), 16, 24}} {
		for _, s := range []api.Spot{
			{Row: -1}, {Column: -1}, {Row: c.rows}, {Column: c.columns}, {Row: c.rows, Column: c.columns},
			{Row: c.rows - 1, Column: c.columns}, {Row: c.rows, Column: c.columns - 1},
			{Row: math.MinInt}, {Row: math.MaxInt}, {Column: math.MinInt}, {Column: math.MaxInt},
		} {
			if m, e := ware.Middle(c.w, s); m != (api.Point{}) || e != api.ErrRange {
				t.Errorf("Middle(%+v, %v): %v, %v", c.w, s, m, e)
			}
		}
	}
}

// P3.4: all spots, column by column.
func TestAll(t *testing.T) {
	small := changed(plate(), func(w *api.Ware) { w.Rows, w.Columns = 2, 3 })
	want := []api.Spot{{Row: 0, Column: 0}, {Row: 1, Column: 0}, {Row: 0, Column: 1}, {Row: 1, Column: 1}, {Row: 0, Column: 2}, {Row: 1, Column: 2}}
	if l, e := ware.All(small); !slices.Equal(l, want) || e != api.OK {
		t.Errorf("All: %v, %v, not %v", l, e, want)
	}
	if l, e := ware.All(trash()); !slices.Equal(l, []api.Spot{{}}) || e != api.OK {
		t.Errorf("All of one well: %v, %v", l, e)
	}
	for _, w := range []api.Ware{plate(), greatest()} {
		want = nil
		for c := range w.Columns {
			for r := range w.Rows {
				want = append(want, api.Spot{Row: r, Column: c})
			}
		}
		if l, e := ware.All(w); !slices.Equal(l, want) || e != api.OK {
			t.Errorf("All(%+v): %v, %v", w, l, e)
		}
	}
}

// P3.4: what comes of it: no two spots have one middle.
func TestMiddlesDiffer(t *testing.T) {
	for _, j := range judged() {
		if j.want != api.OK {
			continue
		}
		spots, _ := ware.All(j.w)
		seen := map[api.Point]bool{}
		for _, s := range spots {
			m, e := ware.Middle(j.w, s)
			if e != api.OK || seen[m] {
				t.Errorf("Middle(%+v, %v): %v, %v, seen %v", j.w, s, m, e, seen[m])
			}
			seen[m] = true
		}
		if len(spots) != j.w.Rows*j.w.Columns {
			t.Errorf("%+v: %d spots", j.w, len(spots))
		}
	}
}

// P3.4: no two answers share memory, spare room too.
func TestAllIsNew(t *testing.T) {
	first, _ := ware.All(plate())
	for i := range first[:cap(first)] {
		first[:cap(first)][i] = api.Spot{Row: -7}
	}
	second, _ := ware.All(plate())
	if slices.Contains(second[:cap(second)], api.Spot{Row: -7}) {
		t.Error("two answers share memory")
	}
}
