package path_test

import (
	"math"
	"slices"
	"testing"

	"workcell/api"
	"workcell/path"
)

// TestLong: lengths, and what is refused (P13.3).
func TestLong(t *testing.T) {
	farAndBack := slices.Repeat([]api.Point{at(-far, -far, -far), at(far, far, far)}, 500)
	for _, c := range []struct {
		name string
		way  []api.Point
		n    int
		e    api.Errno
	}{
		{"no point", nil, 0, api.OK},
		{"no point, of an empty list", []api.Point{}, 0, api.OK},
		{"one point", []api.Point{at(5, 6, 7)}, 0, api.OK},
		{"along X", []api.Point{at(5, 6, 7), at(9, 6, 7)}, 4, api.OK},
		{"along X, back", []api.Point{at(9, 6, 7), at(5, 6, 7)}, 4, api.OK},
		{"along Y", []api.Point{at(5, 6, 7), at(5, -6, 7)}, 12, api.OK},
		{"along Z", []api.Point{at(5, 6, 7), at(5, 6, 100)}, 93, api.OK},
		{"slanting", []api.Point{at(0, 0, 0), at(1, -20, 300)}, 321, api.OK},
		{"there and back", []api.Point{at(0, 0, 0), at(1, -20, 300), at(0, 0, 0)}, 642, api.OK},
		{"standing still", []api.Point{at(1, 2, 3), at(1, 2, 3), at(1, 2, 4), at(1, 2, 4)}, 1, api.OK},
		{"1000 points as far apart as may be", farAndBack, 999 * 6 * far, api.OK},
		{"1001 points", slices.Repeat([]api.Point{at(1, 2, 3)}, 1001), 0, api.ErrCount},
		{"the last of 1001 too far", append(zigzag(1000), at(far+1, 0, 0)), 0, api.ErrRange},
		{"too far left", []api.Point{at(-far-1, 0, 0)}, 0, api.ErrRange},
		{"too far behind", []api.Point{at(0, 0, 0), at(0, far+1, 0)}, 0, api.ErrRange},
		{"too far down", []api.Point{at(0, 0, math.MinInt)}, 0, api.ErrRange},
		{"too far up", []api.Point{at(0, 0, math.MaxInt), at(0, 0, 0)}, 0, api.ErrRange},
	} {
		if n, e := path.Long(c.way); n != c.n || e != c.e {
			t.Errorf("%s: %v %v, should be %v %v", c.name, n, e, c.n, c.e)
		}
	}
}

// TestJoin: what comes of two ways (P13.3).
func TestJoin(t *testing.T) {
	for _, c := range []struct {
		name       string
		a, b, want []api.Point
	}{
		{"two points", []api.Point{at(1, 2, 3)}, []api.Point{at(1, 2, 3)}, []api.Point{at(1, 2, 3)}},
		{"alike points", slices.Repeat([]api.Point{at(1, 2, 3)}, 9), slices.Repeat([]api.Point{at(1, 2, 3)}, 4), []api.Point{at(1, 2, 3)}},
		{"a way and its end", []api.Point{at(0, 0, 0), at(1, 0, 0)}, []api.Point{at(1, 0, 0)}, []api.Point{at(0, 0, 0), at(1, 0, 0)}},
		{"a beginning and its way", []api.Point{at(0, 0, 0)}, []api.Point{at(0, 0, 0), at(1, 0, 0)}, []api.Point{at(0, 0, 0), at(1, 0, 0)}},
		{"straight on along X", []api.Point{at(0, 0, 0), at(1, 0, 0)}, []api.Point{at(1, 0, 0), at(5, 0, 0)}, []api.Point{at(0, 0, 0), at(5, 0, 0)}},
		{"straight on along Y", []api.Point{at(0, 0, 0), at(0, -1, 0)}, []api.Point{at(0, -1, 0), at(0, -5, 0)}, []api.Point{at(0, 0, 0), at(0, -5, 0)}},
		{"straight on along Z", []api.Point{at(0, 0, 3), at(0, 0, 4)}, []api.Point{at(0, 0, 4), at(0, 0, 5)}, []api.Point{at(0, 0, 3), at(0, 0, 5)}},
		{"there and back", []api.Point{at(0, 0, 0), at(5, 0, 0)}, []api.Point{at(5, 0, 0), at(1, 0, 0)}, []api.Point{at(0, 0, 0), at(5, 0, 0), at(1, 0, 0)}},
		{"there and back to the beginning", []api.Point{at(0, 0, 0), at(5, 0, 0)}, []api.Point{at(5, 0, 0), at(0, 0, 0)}, []api.Point{at(0, 0, 0), at(5, 0, 0), at(0, 0, 0)}},
		{"there and back and beyond", []api.Point{at(0, 0, 0), at(5, 0, 0)}, []api.Point{at(5, 0, 0), at(3, 0, 0), at(-3, 0, 0)}, []api.Point{at(0, 0, 0), at(5, 0, 0), at(-3, 0, 0)}},
		{"around a corner", []api.Point{at(0, 0, 0), at(5, 0, 0)}, []api.Point{at(5, 0, 0), at(5, 5, 0)}, []api.Point{at(0, 0, 0), at(5, 0, 0), at(5, 5, 0)}},
		{"straight on within the first", []api.Point{at(0, 0, 0), at(1, 0, 0), at(2, 0, 0), at(2, 1, 0)}, []api.Point{at(2, 1, 0)}, []api.Point{at(0, 0, 0), at(2, 0, 0), at(2, 1, 0)}},
		{"straight on within the second", []api.Point{at(0, 0, 0)}, []api.Point{at(0, 0, 0), at(0, 0, 1), at(0, 0, 4), at(0, 0, 9), at(1, 0, 9)}, []api.Point{at(0, 0, 0), at(0, 0, 9), at(1, 0, 9)}},
		{"standing still on a straight step", []api.Point{at(0, 0, 0), at(1, 0, 0), at(1, 0, 0)}, []api.Point{at(1, 0, 0), at(1, 0, 0), at(2, 0, 0), at(2, 0, 0)}, []api.Point{at(0, 0, 0), at(2, 0, 0)}},
		{"standing still where it turns back", []api.Point{at(0, 0, 0), at(1, 0, 0), at(1, 0, 0)}, []api.Point{at(1, 0, 0), at(1, 0, 0), at(0, 0, 0)}, []api.Point{at(0, 0, 0), at(1, 0, 0), at(0, 0, 0)}},
		{"as far as may be", []api.Point{at(-far, 0, 0), at(0, 0, 0)}, []api.Point{at(0, 0, 0), at(far, 0, 0)}, []api.Point{at(-far, 0, 0), at(far, 0, 0)}},
		{"as far as may be at once", []api.Point{at(-far, 0, 0), at(far, 0, 0)}, []api.Point{at(far, 0, 0), at(far, far, 0), at(far, -far, 0)}, []api.Point{at(-far, 0, 0), at(far, 0, 0), at(far, far, 0), at(far, -far, 0)}},
		{"1000 points", zigzag(500), slices.Concat(zigzag(500)[499:], slices.Repeat([]api.Point{at(250, 249, 1)}, 499)), append(zigzag(500), at(250, 249, 1))},
	} {
		l, e := path.Join(c.a, c.b)
		if !slices.Equal(l, c.want) || e != api.OK {
			t.Errorf("%s: %v %v, should be %v", c.name, l, e, c.want)
		}
	}
}

// TestJoinRefused: in its order (P13.3).
func TestJoinRefused(t *testing.T) {
	one := []api.Point{at(0, 0, 0)}
	slanting := []api.Point{at(0, 0, 0), at(1, 1, 0)}
	distant := []api.Point{at(0, 0, 0), at(0, 0, far+1)}
	still := slices.Repeat(one, 1000)
	for _, c := range []struct {
		name string
		a, b []api.Point
		e    api.Errno
	}{
		{"the first too far", distant, one, api.ErrRange},
		{"the second too far", one, distant, api.ErrRange},
		{"the first too far, without a second", distant, nil, api.ErrRange},
		{"the second too far, without a first", nil, distant, api.ErrRange},
		{"the second too far, the first slanting", slanting, distant, api.ErrRange},
		{"too far by all that can be", []api.Point{at(math.MinInt, 0, 0)}, []api.Point{at(math.MaxInt, 0, 0)}, api.ErrRange},
		{"too far, of too many", append(slices.Clone(still), at(0, -far-1, 0)), still, api.ErrRange},
		{"no first", nil, one, api.ErrCount},
		{"no second", one, nil, api.ErrCount},
		{"neither", nil, nil, api.ErrCount},
		{"no second, the first slanting", slanting, []api.Point{}, api.ErrCount},
		{"1000 together", still[:300], still[:700], api.OK},
		{"1001 together", still[:301], still[:700], api.ErrCount},
		{"1000 and one", still, one, api.ErrCount},
		{"one and 1000", one, still, api.ErrCount},
		{"the first too long", append(still, at(0, 0, 0)), one, api.ErrCount},
		{"too many, and slanting", still, slanting, api.ErrCount},
		{"the first slanting", slanting, []api.Point{at(1, 1, 0)}, api.ErrKind},
		{"the second slanting", one, slanting, api.ErrKind},
		{"the second slanting along Z and X", one, []api.Point{at(0, 0, 0), at(1, 0, 1)}, api.ErrKind},
		{"the second slanting along Y and Z", one, []api.Point{at(0, 0, 0), at(0, 1, 1)}, api.ErrKind},
		{"the second slanting, beginning elsewhere", []api.Point{at(0, 0, 7)}, slanting, api.ErrKind},
		{"the second begins elsewhere", one, []api.Point{at(0, 0, 1)}, api.ErrOrder},
		{"the second begins where the first one does", []api.Point{at(0, 0, 0), at(1, 0, 0)}, one, api.ErrOrder},
		{"the second ends where the first one does", one, []api.Point{at(1, 0, 0), at(0, 0, 0)}, api.ErrOrder},
	} {
		l, e := path.Join(c.a, c.b)
		if e != c.e || e != api.OK && len(l) != 0 {
			t.Errorf("%s: %v %v, should be %v", c.name, l, e, c.e)
		}
	}
}
