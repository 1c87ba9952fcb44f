package fleet_test

import (
	"math"
	"slices"
	"testing"

	"workcell/api"
	"workcell/fleet"
)

// ranks: are the reports told in this order?
func ranks(t *testing.T, l []api.Report, want ...int) {
	t.Helper()
	if got, e := fleet.Best(l); !slices.Equal(got, want) || e != api.OK {
		t.Errorf("Best %v: %v, %v; wanted %v", l, got, e, want)
	}
}

// ended, stuck: reports of jobs that are done, and of others.
func ended(ticks, tips int) api.Report { return api.Report{Stage: 7, Ticks: ticks, Tips: tips} }
func stuck(stage int) api.Report       { return api.Report{Stage: stage, Code: api.ErrForm} }
func numbers(from, below int) (all []int) { // all that there are
	for i := from; i < below; i++ {
		all = append(all, i)
	}
	return all
}

// P22.3: by ticks, then by tips, then by numbers.
func TestBestDone(t *testing.T) {
	ranks(t, nil)
	ranks(t, []api.Report{})
	ranks(t, []api.Report{ended(5, 5)}, 0)
	ranks(t, []api.Report{ended(3, 0), ended(1, 9), ended(2, 5)}, 1, 2, 0)
	ranks(t, []api.Report{ended(7, 3), ended(7, 1), ended(7, 2), ended(6, 4)}, 3, 1, 2, 0)
	ranks(t, []api.Report{ended(7, 3), ended(8, 0), ended(7, 3), ended(7, 2), ended(7, 3)}, 3, 0, 2, 4, 1)
	ranks(t, []api.Report{ended(math.MaxInt, 0), ended(math.MinInt, 1), ended(0, math.MaxInt), ended(0, math.MinInt), ended(-1, 0)}, 1, 4, 3, 2, 0)
}

// P22.3: behind them the others, by stages, the later first, then by numbers.
func TestBestStuck(t *testing.T) {
	ranks(t, []api.Report{stuck(1), stuck(6), stuck(3), stuck(6), stuck(1)}, 1, 3, 2, 0, 4)
	ranks(t, []api.Report{stuck(6), ended(9, 9), stuck(5), ended(8, 9)}, 3, 1, 0, 2)
	ranks(t, []api.Report{{}, stuck(2), ended(math.MaxInt, math.MaxInt), {}}, 2, 1, 0, 3)
	// Stages that no job has are stages, too.
	ranks(t, []api.Report{stuck(0), stuck(-1), stuck(8), stuck(math.MinInt), ended(1, 1), stuck(math.MaxInt), stuck(6)}, 4, 5, 2, 6, 0, 1, 3)
}

// P22.3: nothing else counts: of those that are done neither the error, nor what is put, nor the line and the actions;
// of the others neither ticks nor tips.
func TestBestNothingElse(t *testing.T) {
	ranks(t, []api.Report{
		{Stage: 7, Ticks: 5, Tips: 1, Moved: 0, Actions: 9, Code: api.ErrFull, Line: 8},
		{Stage: 7, Ticks: 5, Tips: 1, Moved: 7, Actions: 3, Line: 2},
		{Stage: 7, Ticks: 5, Tips: 1, Moved: 3, Actions: 5, Code: -1, Line: -5},
		{Stage: 4, Ticks: 9, Tips: 3, Code: api.ErrFull, Line: 9, Actions: 3},
		{Stage: 4, Ticks: 8, Tips: 4, Code: api.ErrForm, Line: 5, Actions: 4, Moved: 7},
		{Stage: 4, Ticks: 9, Tips: 2, Code: api.ErrRange, Line: 7, Actions: 1, Moved: 9},
	}, 0, 1, 2, 3, 4, 5)
}

// P22.3: as many reports as may be, and one more.
func TestBestMost(t *testing.T) {
	l := make([]api.Report, api.MaxJobs)
	ranks(t, l, numbers(0, api.MaxJobs)...)
	for i := range l {
		l[i] = ended(i/20, 3)
	}
	ranks(t, l, numbers(0, api.MaxJobs)...)
	for i := range l {
		l[i] = ended(-i/20, 3)
	}
	ranks(t, l, slices.Concat(numbers(40, 60), numbers(20, 40), numbers(0, 20))...)
	for _, size := range []int{api.MaxJobs + 1, 1000} {
		if got, e := fleet.Best(make([]api.Report, size)); len(got) != 0 || e != api.ErrCount {
			t.Errorf("Best of %d: %v, %v", size, got, e)
		}
	}
}

// P22.3: drawn reports, held against a slow order.
func TestBestDrawn(t *testing.T) {
	d := die(2)
	for range 3000 {
		var l []api.Report
		for range d.n(api.MaxJobs + 1) {
			l = append(l, api.Report{Stage: pick(&d, 7, 7, 7, d.n(9)), Ticks: d.n(4), Tips: d.n(4), Actions: d.n(9), Line: d.n(9)})
		}
		ranks(t, l, slowBest(l)...)
	}
}
