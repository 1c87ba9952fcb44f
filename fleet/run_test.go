package fleet_test

import (
	"math"
	"runtime"
	"slices"
	"sync"
	"testing"
	"time"

	"workcell/api"
	"workcell/fleet"
)

// runs: do so many hands tell such reports, and so many of each stage?
func runs(t *testing.T, l []api.Job, fuel, hands int, want []api.Report, counts [8]int) {
	t.Helper()
	if r, n, e := fleet.Run(l, fuel, hands); !slices.Equal(r, want) || n != counts || e != api.OK {
		t.Errorf("Run %q %d %d: %v, %v, %v; wanted %v, %v", l, fuel, hands, r, n, e, want, counts)
	}
}

// P22.2: reports in the order of their jobs, and how many there are of each stage; the same by however many hands.
func TestRun(t *testing.T) {
	l := someJobs()
	for hands := 1; hands <= 16; hands++ {
		runs(t, nil, fuel, hands, nil, [8]int{})
		runs(t, []api.Job{}, 0, hands, nil, [8]int{})
		runs(t, []api.Job{{Source: "wait 1s"}}, 10, hands, []api.Report{{Stage: 7, Actions: 1, Ticks: 2634184}}, [8]int{7: 1})
		runs(t, []api.Job{{Deck: "?"}, {}, {Deck: "?"}}, 0, hands, []api.Report{
			{Stage: 1, Code: api.ErrForm, Line: 1}, {Stage: 7, Ticks: 1634184}, {Stage: 1, Code: api.ErrForm, Line: 1},
		}, [8]int{1: 2, 7: 1})
		want, counts := stagesOf(t, l, fuel)
		runs(t, l, fuel, hands, want, counts)
		if counts != [8]int{0, 1, 1, 1, 1, 2, 1, 4} {
			t.Error(counts)
		}
	}
}

// P22.2: as many jobs as may be, and one more.
func TestMost(t *testing.T) {
	d := die(1)
	var l []api.Job
	for range api.MaxJobs {
		l = append(l, pick(&d, someJobs()...))
	}
	want, counts := stagesOf(t, l, fuel)
	for _, hands := range []int{1, 2, 7, 16} {
		runs(t, l, fuel, hands, want, counts)
		refusesRun(t, append(l, api.Job{}), fuel, hands, api.ErrCount)
		refusesRun(t, make([]api.Job, 1000), 0, hands, api.ErrCount)
	}
}

// refusesRun: with nothing beside the error?
func refusesRun(t *testing.T, l []api.Job, fuel, hands int, want api.Errno) {
	t.Helper()
	if r, n, e := fleet.Run(l, fuel, hands); len(r) != 0 || n != [8]int{} || e != want {
		t.Errorf("Run of %d, %d %d: %v, %v, %v; wanted %v", len(l), fuel, hands, r, n, e, want)
	}
}

// P22.2: a fuel, or hands, that may not be; that comes ahead of too many jobs.
func TestRunRange(t *testing.T) {
	for _, l := range [][]api.Job{nil, someJobs(), make([]api.Job, api.MaxJobs+1)} {
		for _, hands := range []int{0, -1, 17, math.MinInt, math.MaxInt} {
			refusesRun(t, l, fuel, hands, api.ErrRange)
		}
		for _, f := range []int{-1, api.MaxFuel + 1, math.MinInt, math.MaxInt} {
			refusesRun(t, l, f, 4, api.ErrRange)
		}
	}
	want, counts := stagesOf(t, someJobs(), 0)
	runs(t, someJobs(), 0, 4, want, counts)
	want, counts = stagesOf(t, someJobs(), api.MaxFuel)
	runs(t, someJobs(), api.MaxFuel, 4, want, counts)
}

// What comes of P22: one job's report does not hang on the others.
func TestAlone(t *testing.T) {
	l := someJobs()
	for i := range l {
		var mixed []api.Job
		for j := range l {
			mixed = append(mixed, l[(i+j)%len(l)], l[i])
		}
		reports, _, _ := fleet.Run(mixed, fuel, 3)
		one, _ := fleet.One(l[i], fuel)
		for j := range l {
			if reports[2*j+1] != one {
				t.Errorf("%q among others: %v, not %v", l[i], reports[2*j+1], one)
			}
		}
	}
}

// slowJobs: a few that need some time.
func slowJobs() []api.Job {
	return slices.Repeat([]api.Job{at("for i from 1 to 30000 {", "if 1 < 1 { }", "}")}, 20)
}

// watched: how many hands are seen at one time while a fleet of so many runs?
func watched(t *testing.T, hands int) int {
	t.Helper()
	ahead := runtime.NumGoroutine()
	ended := make(chan bool)
	go func() {
		defer close(ended)
		fleet.Run(slowJobs(), api.MaxFuel, hands)
	}()
	most := 0
	for isRunning := true; isRunning; time.Sleep(50 * time.Microsecond) {
		most = max(most, runtime.NumGoroutine()-ahead-1)
		select {
		case <-ended:
			isRunning = false
		default:
		}
	}
	settle(t, ahead)
	return most
}

// P22.2: so many hands at one time, no more and no fewer. (Where there are few processors, one may be overlooked.)
func TestHands(t *testing.T) {
	for _, hands := range []int{1, 2, 5, 16} {
		most := 0
		for tries := 0; tries < 50 && most < hands; tries++ {
			most = max(most, watched(t, hands))
		}
		if most != hands {
			t.Errorf("%d hands, not %d", most, hands)
		}
	}
}

// settle: wait until no more goroutines are left than that; one that has told all may need a moment to end.
func settle(t *testing.T, count int) {
	t.Helper()
	for range 1000 {
		if runtime.NumGoroutine() <= count {
			return
		}
		time.Sleep(time.Millisecond)
	}
	t.Errorf("%d goroutines are left of %d", runtime.NumGoroutine(), count)
}

// P22.2: all hands have gone when the call answers; many fleets at one time answer as one does.
func TestManyFleets(t *testing.T) {
	ahead := runtime.NumGoroutine()
	l := someJobs()
	want, counts := stagesOf(t, l, fuel)
	var all sync.WaitGroup
	for i := range 40 {
		all.Go(func() {
			for j := range 5 {
				runs(t, l, fuel, 1+(i+j)%16, want, counts)
				refusesRun(t, l, fuel, 0, api.ErrRange)
			}
		})
	}
	all.Wait()
	settle(t, ahead)
}
