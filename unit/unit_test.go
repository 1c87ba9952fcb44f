package unit_test

import (
	"math"
	"math/big"
	"slices"
	"strconv"
	"testing"

	"workcell/api"
	"workcell/unit"
)

const most = api.MaxValue

func quantity(kind, value int) api.Quantity { return api.Quantity{Kind: kind, Value: value} }

// judge a quantity by the chapter's words: its kind ahead of its value.
func judge(q api.Quantity) api.Errno {
	switch {
	case q.Kind < 0 || q.Kind > 5:
		return api.ErrKind
	case q.Value < -most || q.Value > most:
		return api.ErrRange
	}
	return api.OK
}

// samples: quantities of all kinds and some that are none, with ordinary values, edges, and the ends of all numbers.
func samples() []api.Quantity {
	var all []api.Quantity
	for _, kind := range []int{math.MinInt, -1, 0, 1, 2, 3, 4, 5, 6, math.MaxInt} {
		for _, value := range []int{math.MinInt, -most - 1, -most, -most + 1, -7, -2, -1, 0, 1, 2, 7, 31622, 31623, most - 1, most, most + 1, math.MaxInt} {
			all = append(all, quantity(kind, value))
		}
	}
	return all
}

// P1.1 and P1.2: what may be, what is refused, and why.
func TestMayAndShowJudgeAlike(t *testing.T) {
	for _, q := range samples() {
		want := judge(q)
		if unit.May(q) != (want == api.OK) {
			t.Errorf("May(%v): %v", q, unit.May(q))
		}
		text, e := unit.Show(q)
		if e != want || (text == "") != (want != api.OK) {
			t.Errorf("Show(%v): %q, %v, not %v", q, text, e, want)
		}
	}
}

// P1.2: the value, and the kind's least unit.
func TestShow(t *testing.T) {
	for _, c := range []struct {
		q    api.Quantity
		want string
	}{
		{quantity(api.Number, 0), "0"},
		{quantity(api.Number, -12), "-12"},
		{quantity(api.Volume, 12500), "12500nl"},
		{quantity(api.Length, -3), "-3um"},
		{quantity(api.Heat, 310150), "310150mK"},
		{quantity(api.Time, 60000), "60000ms"},
		{quantity(api.Turns, 300), "300rpm"},
		{quantity(api.Turns, most), "1000000000rpm"},
		{quantity(api.Volume, -most), "-1000000000nl"},
	} {
		if text, e := unit.Show(c.q); text != c.want || e != api.OK {
			t.Errorf("Show(%v): %q, %v, not %q", c.q, text, e, c.want)
		}
	}
}

// P1.1 and P1.2: what is shown is read again.
func TestShownIsRead(t *testing.T) {
	for _, q := range samples() {
		text, e := unit.Show(q)
		if e != api.OK {
			continue
		}
		if again, f := unit.Read(text); again != q || f != api.OK {
			t.Errorf("Read(%q): %v, %v, not %v", text, again, f, q)
		}
	}
}

// kindOf the answer of a calculation, and whether there is one.
type kindOf func(a, b api.Quantity) (int, bool)

func sumKind(a, b api.Quantity) (int, bool) { return a.Kind, a.Kind == b.Kind }

func productKind(a, b api.Quantity) (int, bool) {
	if a.Kind == api.Number {
		return b.Kind, true
	}
	return a.Kind, b.Kind == api.Number
}

func quotientKind(a, b api.Quantity) (int, bool) {
	if a.Kind == b.Kind {
		return api.Number, true
	}
	return a.Kind, b.Kind == api.Number
}

// wanted: what a calculation must answer, by numbers of any size.
func wanted(a, b api.Quantity, kinds kindOf, value func(x, y *big.Int) *big.Int) (api.Quantity, api.Errno) {
	for _, q := range []api.Quantity{a, b} {
		if e := judge(q); e != api.OK {
			return api.Quantity{}, e
		}
	}
	kind, ok := kinds(a, b)
	if !ok {
		return api.Quantity{}, api.ErrKind
	}
	v := value(big.NewInt(int64(a.Value)), big.NewInt(int64(b.Value)))
	if v == nil {
		return api.Quantity{}, api.ErrNone
	}
	if v.CmpAbs(big.NewInt(most)) > 0 {
		return api.Quantity{}, api.ErrRange
	}
	return quantity(kind, int(v.Int64())), api.OK
}

// P1.3: all three, on all pairs of samples: answers, errors, and which of several errors.
func TestCalculations(t *testing.T) {
	sum := func(x, y *big.Int) *big.Int { return new(big.Int).Add(x, y) }
	product := func(x, y *big.Int) *big.Int { return new(big.Int).Mul(x, y) }
	quotient := func(x, y *big.Int) *big.Int {
		if y.Sign() == 0 {
			return nil
		}
		return new(big.Int).Quo(x, y)
	}
	for _, c := range []struct {
		name  string
		call  func(a, b api.Quantity) (api.Quantity, api.Errno)
		kinds kindOf
		value func(x, y *big.Int) *big.Int
	}{
		{"Add", unit.Add, sumKind, sum},
		{"Times", unit.Times, productKind, product},
		{"Over", unit.Over, quotientKind, quotient},
	} {
		for _, a := range samples() {
			for _, b := range samples() {
				got, e := c.call(a, b)
				want, f := wanted(a, b, c.kinds, c.value)
				if got != want || e != f {
					t.Fatalf("%s(%v, %v): %v, %v, not %v, %v", c.name, a, b, got, e, want, f)
				}
			}
		}
	}
}

// P1.3: some answers, written out.
func TestCalculationsByHand(t *testing.T) {
	volume, length, number := api.Volume, api.Length, api.Number
	for _, c := range []struct {
		name string
		call func(a, b api.Quantity) (api.Quantity, api.Errno)
		a, b api.Quantity
		want api.Quantity
		e    api.Errno
	}{
		{"sum", unit.Add, quantity(volume, 5), quantity(volume, -8), quantity(volume, -3), api.OK},
		{"sum at the edge", unit.Add, quantity(volume, most-1), quantity(volume, 1), quantity(volume, most), api.OK},
		{"sum beyond", unit.Add, quantity(volume, most), quantity(volume, 1), api.Quantity{}, api.ErrRange},
		{"sum below", unit.Add, quantity(volume, -most), quantity(volume, -1), api.Quantity{}, api.ErrRange},
		{"sum of unlike", unit.Add, quantity(volume, 5), quantity(number, 5), api.Quantity{}, api.ErrKind},
		{"product", unit.Times, quantity(number, -3), quantity(length, 7), quantity(length, -21), api.OK},
		{"product turned", unit.Times, quantity(length, 7), quantity(number, -3), quantity(length, -21), api.OK},
		{"product of numbers", unit.Times, quantity(number, 7), quantity(number, 3), quantity(number, 21), api.OK},
		{"product of none", unit.Times, quantity(length, 7), quantity(length, 3), api.Quantity{}, api.ErrKind},
		{"product of none, beyond", unit.Times, quantity(length, most), quantity(length, 2), api.Quantity{}, api.ErrKind},
		{"product beyond", unit.Times, quantity(length, most), quantity(number, 2), api.Quantity{}, api.ErrRange},
		{"quotient", unit.Over, quantity(volume, 7), quantity(volume, 2), quantity(number, 3), api.OK},
		{"quotient towards 0", unit.Over, quantity(volume, -7), quantity(number, 2), quantity(volume, -3), api.OK},
		{"quotient of a number", unit.Over, quantity(number, 7), quantity(volume, 2), api.Quantity{}, api.ErrKind},
		{"quotient by nothing", unit.Over, quantity(volume, 7), quantity(number, 0), api.Quantity{}, api.ErrNone},
		{"unlike ahead of nothing", unit.Over, quantity(volume, 7), quantity(length, 0), api.Quantity{}, api.ErrKind},
		{"first's range ahead of second's kind", unit.Add, quantity(volume, most+1), quantity(6, 0), api.Quantity{}, api.ErrRange},
		{"kind ahead of range", unit.Times, quantity(6, most+1), quantity(volume, 0), api.Quantity{}, api.ErrKind},
		{"second's range ahead of unlike", unit.Over, quantity(volume, 1), quantity(length, most+1), api.Quantity{}, api.ErrRange},
	} {
		if got, e := c.call(c.a, c.b); got != c.want || e != c.e {
			t.Errorf("%s: %v, %v, not %v, %v", c.name, got, e, c.want, c.e)
		}
	}
}

// P1.3: Over of Times by a number that is not 0 is the quantity again.
func TestOverUndoesTimes(t *testing.T) {
	for kind := range 6 {
		for value := -40; value <= 40; value++ {
			for factor := -9; factor <= 9; factor++ {
				q, n := quantity(kind, value), quantity(api.Number, factor)
				product, _ := unit.Times(q, n)
				if again, e := unit.Over(product, n); factor != 0 && (again != q || e != api.OK) {
					t.Errorf("%v by %v: %v, %v", q, n, again, e)
				}
			}
		}
	}
}

// P1.4: some totals, edges, and wrong numbers.
func TestParts(t *testing.T) {
	for _, c := range []struct {
		total, most int
		want        []int
		e           api.Errno
	}{
		{10, 4, []int{4, 3, 3}, api.OK},
		{11, 4, []int{4, 4, 3}, api.OK},
		{12, 4, []int{4, 4, 4}, api.OK},
		{13, 4, []int{4, 3, 3, 3}, api.OK},
		{0, 1, nil, api.OK},
		{0, most, nil, api.OK},
		{1, most, []int{1}, api.OK},
		{most, most, []int{most}, api.OK},
		{most, most - 1, []int{most / 2, most / 2}, api.OK},
		{-1, 4, nil, api.ErrRange},
		{most + 1, most, nil, api.ErrRange},
		{10, 0, nil, api.ErrRange},
		{0, 0, nil, api.ErrRange},
		{10, -4, nil, api.ErrRange},
		{10, most + 1, nil, api.ErrRange},
		{1001, 1, nil, api.ErrCount},
		{most, 1, nil, api.ErrCount},
		{most, most/1000 - 1, nil, api.ErrCount},
		{math.MaxInt, math.MaxInt, nil, api.ErrRange},
		{math.MinInt, math.MinInt, nil, api.ErrRange},
	} {
		if got, e := unit.Parts(c.total, c.most); !slices.Equal(got, c.want) || e != c.e {
			t.Errorf("Parts(%d, %d): %v, %v, not %v, %v", c.total, c.most, got, e, c.want, c.e)
		}
	}
}

// P1.4: a thousand parts are not too many.
func TestPartsThousand(t *testing.T) {
	for _, c := range [][2]int{{1000, 1}, {most, most / 1000}, {1999, 2}} {
		got, e := unit.Parts(c[0], c[1])
		if len(got) != 1000 || e != api.OK {
			t.Errorf("Parts(%d, %d): %d parts, %v", c[0], c[1], len(got), e)
		}
	}
}

// P1.4: parts add up, as few as can be, none above most, at most one apart, the greater first.
func TestPartsAreEven(t *testing.T) {
	for total := range 130 {
		for most := 1; most < 140; most++ {
			parts, e := unit.Parts(total, most)
			sum := 0
			for i, p := range parts {
				sum += p
				if p < 1 || p > most || p > parts[0] || p < parts[0]-1 || i > 0 && p > parts[i-1] {
					t.Fatalf("Parts(%d, %d): %v", total, most, parts)
				}
			}
			if e != api.OK || sum != total || (len(parts)-1)*most >= total && total > 0 {
				t.Fatalf("Parts(%d, %d): %v, %v", total, most, parts, e)
			}
		}
	}
}

// P1.4: each answer is new memory.
func TestPartsShareNothing(t *testing.T) {
	first, _ := unit.Parts(10, 4)
	for i := range first[:cap(first)] {
		first[:cap(first)][i] = -1
	}
	if second, _ := unit.Parts(10, 4); !slices.Equal(second, []int{4, 3, 3}) {
		t.Error("the second answer: " + strconv.Itoa(second[0]))
	}
}
