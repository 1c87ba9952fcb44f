package flow_test

import (
	"slices"
	"testing"
	"time"

	"workcell/api"
	"workcell/flow"
	"workcell/mean"
)

// move with a tip that is dropped.
func move(from, into api.Place, drawn, given int) []api.Action {
	return trace(tip, draw(from, drawn), put(into, given), drop)
}

// TestSave: changes of the tip that go (P12.3).
func TestSave(t *testing.T) {
	f := fill(pA1, "a", 100)
	odd := api.Action{Place: pA1, Label: "?", Volume: -1, Value: -1, Time: -1}
	oddTip, oddDrop := odd, odd
	oddTip.Kind, oddDrop.Kind = api.Tip, api.Drop
	for _, x := range []struct {
		name    string
		l, want []api.Action
	}{
		{"nothing", nil, nil},
		{"two tips", trace(f, times(2, move(pA1, pB1, 5, 5)...)), trace(f, tip, times(2, draw(pA1, 5), put(pB1, 5)), drop)},
		{"many", trace(f, times(8, move(pA1, pB1, 5, 5)...)), trace(f, tip, times(8, draw(pA1, 5), put(pB1, 5)), drop)},
		{"into two", trace(f, move(pA1, pB1, 5, 5), move(pA1, pA2, 6, 6)), trace(f, tip, draw(pA1, 5), put(pB1, 5), draw(pA1, 6), put(pA2, 6), drop)},
		{"with some left", trace(f, move(pA1, pB1, 5, 4), move(pA1, pB1, 5, 4)), trace(f, tip, times(2, draw(pA1, 5), put(pB1, 4)), drop)},
		{"with all left", trace(f, tip, draw(pA1, 1), drop, tip, draw(pA1, 1), drop), trace(f, tip, draw(pA1, 1), draw(pA1, 1), drop)},
		{"at the end no Drop", trace(f, move(pA1, pB1, 5, 4), tip, draw(pA1, 5)), trace(f, tip, draw(pA1, 5), put(pB1, 4), draw(pA1, 5))},
		{"several draws", trace(f, tip, draw(pA1, 1), draw(pA1, 2), drop, tip, draw(pA1, 3), put(pB1, 1), draw(pA1, 4), drop), trace(f, tip, draw(pA1, 1), draw(pA1, 2), draw(pA1, 3), put(pB1, 1), draw(pA1, 4), drop)},
		{"with others between", trace(f, tip, timed(api.Wait, 5), draw(pA1, 1), timed(api.Warm, 0), drop, tip, fill(pB1, "c", 5), timed(api.Shake, 2), draw(pA1, 1), drop, timed(api.Hold, 1)), trace(f, tip, timed(api.Wait, 5), draw(pA1, 1), timed(api.Warm, 0), fill(pB1, "c", 5), timed(api.Shake, 2), draw(pA1, 1), drop, timed(api.Hold, 1))},
		{"the well filled again", trace(f, tip, draw(pA1, 5), drop, tip, fill(pA1, "a", 5), draw(pA1, 5), drop), trace(f, tip, draw(pA1, 5), fill(pA1, "a", 5), draw(pA1, 5), drop)},
		{"odd ones", trace(f, tip, draw(pA1, 1), oddDrop, oddTip, draw(pA1, 2), drop), trace(f, tip, draw(pA1, 1), draw(pA1, 2), drop)},
		{"two places, each twice", trace(f, fill(pB3, "b", 9), times(2, move(pA1, pB1, 5, 5)...), times(2, move(pB3, pA2, 1, 1)...)), trace(f, fill(pB3, "b", 9), tip, times(2, draw(pA1, 5), put(pB1, 5)), drop, tip, times(2, draw(pB3, 1), put(pA2, 1)), drop)},
		{"two labels, both still there", trace(f, fill(pA1, "b", 5), times(2, move(pA1, pB1, 5, 5)...)), trace(f, fill(pA1, "b", 5), tip, times(2, draw(pA1, 5), put(pB1, 5)), drop)},
		{"into the place itself", trace(f, times(2, move(pA1, pA1, 5, 5)...)), trace(f, tip, times(2, draw(pA1, 5), put(pA1, 5)), drop)},
		{"a full tip", trace(f, tip, draw(pA1, 8), drop, tip, draw(pA1, 12), drop), trace(f, tip, draw(pA1, 8), draw(pA1, 12), drop)},
		{"each with what was left", trace(f, times(4, tip, draw(pA1, 8), drop)), trace(f, times(2, tip, draw(pA1, 8), draw(pA1, 8), drop))},
		{"all tips of the deck", trace(f, times(7, move(pA1, pB1, 1, 1)...), tip, timed(api.Wait, 1), drop), trace(f, tip, times(7, draw(pA1, 1), put(pB1, 1)), drop, tip, timed(api.Wait, 1), drop)},
	} {
		if got, e := flow.Save(table(20), x.l); !slices.Equal(got, x.want) || e != api.OK {
			t.Errorf("%s: %v %v, should be %v", x.name, got, e, x.want)
		}
	}
}

// TestSaveStays: changes of the tip that stay, each for one reason (P12.3).
func TestSaveStays(t *testing.T) {
	f := trace(fill(pA1, "a", 100), fill(pB1, "a", 100))
	// The second tip puts 2 of b; with the 2 of a that the first one has left it would put those.
	unlike := trace(striped(pA1, 4, 5), move(pA1, qA1, 5, 3), move(pA1, qA1, 5, 2))
	for name, l := range map[string][]api.Action{
		"from another place":           trace(f, move(pA1, pA2, 5, 5), move(pB1, pA2, 5, 5)),
		"first from two":               trace(f, tip, draw(pA1, 1), draw(pB1, 1), drop, move(pA1, pA2, 5, 5)),
		"first from two, then second":  trace(f, tip, draw(pA1, 1), draw(pB1, 1), drop, move(pB1, pA2, 5, 5)),
		"second from two":              trace(f, move(pA1, pA2, 5, 5), tip, draw(pA1, 1), draw(pB1, 1), drop),
		"second from two at the end":   trace(f, move(pA1, pA2, 5, 5), tip, draw(pA1, 1), draw(pB1, 1)),
		"both from two":                trace(f, times(2, tip, draw(pA1, 1), draw(pB1, 1), drop)),
		"first draws nothing":          trace(f, tip, drop, move(pA1, pA2, 5, 5)),
		"second draws nothing":         trace(f, move(pA1, pA2, 5, 5), tip, timed(api.Wait, 1), drop),
		"a tip at the end":             trace(f, move(pA1, pA2, 5, 5), tip),
		"neither draws":                times(3, tip, drop),
		"a third draws":                trace(f, move(pA1, pA2, 5, 5), tip, drop, move(pA1, pA2, 5, 5)),
		"something between":            trace(f, move(pA1, pA2, 5, 5), timed(api.Wait, 0), move(pA1, pA2, 5, 5)),
		"no tip behind":                trace(f, move(pA1, pA2, 5, 5), fill(pA2, "a", 1)),
		"too much for a tip":           trace(f, tip, draw(pA1, 9), drop, tip, draw(pA1, 12), drop),
		"dirty":                        trace(striped(pA1, 2, 5), move(pA1, pA2, 5, 5), move(pA1, pA2, 5, 5)),
		"dirty with nothing held":      trace(fill(pA1, "a", 5), move(pA1, pB1, 5, 5), tip, fill(pA1, "b", 5), draw(pA1, 5), drop),
		"a well would not be the same": unlike,
		"it would be dirty later":      trace(unlike, tip, draw(pA1, 1), draw(qA1, 1), drop),
		"dirty with the end's wells":   trace(unlike, tip, draw(pA1, 1), draw(qA1, 5), drop, fill(qA1, "a", 5)),
		"it would stay in a part":      trace(unlike, tip, draw(qA1, 4), drop),
		"it would come to another":     trace(unlike, tip, draw(qA1, 5), put(pB3, 5), drop),
	} {
		if got, e := flow.Save(table(20), l); !slices.Equal(got, l) || e != api.OK {
			t.Errorf("%s: %v %v, should be %v", name, got, e, l)
		}
	}
	// More than MaxParcels would be held: 60, and 60 of a well that is filled again.
	l := trace(striped(pA1, 60, 1), tip, draw(pA1, 60), drop, tip, striped(pA1, 60, 1), draw(pA1, 60), drop)
	if got, e := flow.Save(table(200), l); !slices.Equal(got, l) || e != api.OK {
		t.Errorf("parcels: %v %v", got, e)
	}
}

// TestSaveMadeUpFor: wells that are not the same behind the second tip, but at the end (P12.3).
func TestSaveMadeUpFor(t *testing.T) {
	begin := striped(pA1, 4, 5)
	one, other := trace(tip, draw(pA1, 5), put(qA1, 3)), trace(draw(pA1, 5), put(qA1, 2), drop)
	for name, end := range map[string][]api.Action{
		"emptied":          trace(tip, draw(qA1, 5), drop),
		"emptied, no Drop": trace(tip, draw(qA1, 5)),
		"emptied in parts": trace(tip, draw(qA1, 1), draw(qA1, 4), drop, timed(api.Wait, 3), fill(qA1, "c", 2)),
	} {
		l, want := trace(begin, one, drop, tip, other, end), trace(begin, one, other, end)
		if got, e := flow.Save(table(20), l); !slices.Equal(got, want) || e != api.OK {
			t.Errorf("%s: %v %v, should be %v", name, got, e, want)
		}
	}
}

// TestSaveState: a trace that may not be, or a deck (P12.3).
func TestSaveState(t *testing.T) {
	f := fill(pA1, "a", 100)
	good := trace(f, times(2, move(pA1, pB1, 5, 5)...))
	twice := append(table(20), table(20)...)
	for name, x := range map[string]struct {
		d []api.Seat
		l []api.Action
	}{
		"no tip":              {table(20), trace(good, drop)},
		"dry":                 {table(20), trace(good, tip, draw(pA1, 20), draw(pA1, 20), draw(pA1, 20), draw(pA1, 20), draw(pA1, 20))},
		"no kind":             {table(20), trace(good, api.Action{})},
		"no such well":        {table(20), trace(fill(place(2, 0, 0), "a", 1))},
		"no tips":             {slices.Delete(table(20), 2, 3), good},
		"no tips left, saved": {table(20), trace(f, times(9, move(pA1, pB1, 1, 1)...))},
		"a tip too small":     {table(4), good},
		"no deck":             {nil, good},
		"a bad deck":          {twice[:5], good},
		"too many seats":      {slices.Repeat(table(20), 4), nil},
		"a bad ware":          {[]api.Seat{{Slot: 1, Name: "p"}}, nil},
	} {
		if got, e := flow.Save(x.d, x.l); len(got) != 0 || e != api.ErrState {
			t.Errorf("%s: %v %v", name, got, e)
		}
	}
	if got, e := flow.Save(nil, make([]api.Action, api.MaxTrace+1)); len(got) != 0 || e != api.ErrCount {
		t.Error("count ahead of state:", got, e)
	}
	if got, e := flow.Save(nil, nil); len(got) != 0 || e != api.OK {
		t.Error("nothing on nothing:", got, e)
	}
}

// TestSaveLong: as many tips as a trace can change, and wells with many parcels, end soon (P12.3).
func TestSaveLong(t *testing.T) {
	from := place(1, 0, 0)
	var many []api.Action
	for i := range api.MaxParcels {
		many = append(many, fill(from, "l"+string([]byte{'a' + byte(i/26), 'a' + byte(i%26)}), 1000000))
	}
	wells := trace(fill(from, "a", 1000000))
	for i := range 749 {
		wells = append(wells, move(from, place(1, i%15, 1+i%23), 3, 2)...)
	}
	for name, l := range map[string][]api.Action{
		"many parcels": trace(many, times(966, tip, draw(from, 1), drop)),
		"many wells":   wells,
	} {
		begin := time.Now()
		got, e := flow.Save(vast(), l)
		if tips, _, _, _ := flow.Usage(got); tips != 1 || e != api.OK {
			t.Errorf("%s: %d tips, %v", name, tips, e)
		}
		before, _, _ := mean.Run(vast(), l)
		after, _, e := mean.Run(vast(), got)
		if !sameEnd(before, after) || e != api.OK {
			t.Errorf("%s: not the same: %v", name, e)
		}
		if spent := time.Since(begin); spent > 20*time.Second { // a run of all for each tip would take longer still
			t.Errorf("%s: %v", name, spent)
		}
	}
}
