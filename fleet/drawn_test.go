package fleet_test

import (
	"fmt"
	"slices"
	"strings"
	"testing"

	"workcell/api"
	"workcell/fleet"
)

// drawnDeck: most of the seats, in any order; now and then none, or lines that are no deck's.
func (d *die) drawnDeck() string {
	if d.n(30) == 0 {
		return pick(d, "?", textOf(rack())+textOf(rack()), textOf(plateP(), trash())+"3 z", "\n\n")
	}
	l := table()[:4-d.n(6)/5]
	for i := range l {
		j := i + d.n(len(l)-i)
		l[i], l[j] = l[j], l[i]
	}
	return textOf(l[:len(l)-d.n(5)/4]...)
}

// drawnSource: a few lines, most of which may be.
func (d *die) drawnSource() string {
	right := []string{
		moves, "tip", "draw 5nl from p.A1", "put 3nl into q.A1", "drop", "wait 1s", "heat 37C", "hold 1ms", "shake 100rpm for 1s",
		"for i from 1 to 2 { move 3nl * i from p.A1 into p(i, 1) }", "let n = 2 set n = n + 1", "if 1 < 2 { wait 2s } else { hold 1ms }",
		"def f(x vol) { move x from p.A1 into p.A2 } do f(4nl)", fills,
	}
	wrong := []string{"draw 500nl from p.A1", "put 1nl into z.A1", "let 5", "wait 5ul", "put 1nl into p(3, 1)", "$", "wait 1s / 0", "wait 277h"}
	l := []string{fills}
	for range d.n(6) {
		line := pick(d, right...)
		if d.n(20) == 0 {
			line = pick(d, wrong...)
		}
		l = append(l, line)
	}
	return strings.Join(l, pick(d, "\n", "\n\n", " "))
}

// job that is drawn.
func (d *die) job() api.Job { return api.Job{Deck: d.drawnDeck(), Source: d.drawnSource()} }

// P22.1: drawn jobs, held against a slow report.
func TestDrawnJobs(t *testing.T) {
	d := die(3)
	var seen [8]int
	for range 4000 {
		j, some := d.job(), pick(&d, fuel, fuel, fuel, d.n(20))
		want := slowReport(j, some)
		if r, e := fleet.One(j, some); r != want || e != api.OK {
			t.Fatalf("One %q %d: %v, %v; wanted %v", j, some, r, e, want)
		}
		seen[want.Stage]++
	}
	for stage := 1; stage <= 7; stage++ {
		if seen[stage] < 50 {
			t.Errorf("stage %d comes %d times", stage, seen[stage])
		}
	}
}

// P22.2: drawn fleets.
func TestDrawnFleets(t *testing.T) {
	d := die(4)
	for range 300 {
		var l []api.Job
		for range d.n(pick(&d, 3, 20, api.MaxJobs+1)) {
			l = append(l, d.job())
		}
		some := pick(&d, fuel, d.n(20))
		want, counts := stagesOf(t, l, some)
		runs(t, l, some, 1+d.n(16), want, counts)
		ranks(t, want, slowBest(want)...)
	}
}

// P22.2, P22.3: nothing that is handed in is changed or kept, and no answer shares anything with another one.
func TestMemory(t *testing.T) {
	jobs := roomy(someJobs(), api.Job{Deck: "spare", Source: "spare"})
	reports, _ := stagesOf(t, jobs, fuel)
	reports = roomy(reports, api.Report{Stage: -9})
	before := fmt.Sprint(jobs[:cap(jobs)], reports[:cap(reports)])
	all := func() ([]api.Report, []int) {
		r, _, _ := fleet.Run(jobs, fuel, 5)
		b, _ := fleet.Best(reports)
		return r, b
	}
	first, best := all()
	want := fmt.Sprint(first, best)
	spoiltReports, spoiltBest := all()
	clear(spoiltReports[:cap(spoiltReports)])
	clear(spoiltBest[:cap(spoiltBest)])
	if now := fmt.Sprint(jobs[:cap(jobs)], reports[:cap(reports)]); now != before {
		t.Errorf("handed in, and changed: %s, was %s", now, before)
	}
	if again := fmt.Sprint(all()); again != want {
		t.Errorf("a later call tells %s, not %s", again, want)
	}
	clear(jobs)
	clear(reports)
	if now := fmt.Sprint(first, best); now != want || len(first) != len(someJobs()) || len(best) != len(first) {
		t.Errorf("shared: %s, was %s", now, want)
	}
}

// FuzzFleet: decks and sources of any form, each by itself, and many times in a fleet.
func FuzzFleet(f *testing.F) {
	for i, j := range someJobs() {
		f.Add(j.Deck, j.Source, 10*i, i)
	}
	f.Fuzz(func(t *testing.T, deck, source string, some, hands int) {
		j := api.Job{Deck: deck, Source: source}
		some, hands = some&1023, 1+hands&15
		want := slowReport(j, some)
		if r, e := fleet.One(j, some); r != want || e != api.OK {
			t.Fatalf("One %q %d: %v, %v; wanted %v", j, some, r, e, want)
		}
		counts := [8]int{7: 1}
		counts[want.Stage] += 5
		l := slices.Repeat([]api.Job{j}, 6)
		l[2] = api.Job{}
		all := slices.Repeat([]api.Report{want}, 6)
		all[2] = slowReport(api.Job{}, some)
		runs(t, l, some, hands, all, counts)
		ranks(t, all, slowBest(all)...)
	})
}
