package fleet

import (
	"sync"

	"workcell/api"
)

// ledger of reports: those of the jobs, and how many of each stage there are. Who writes in it holds its lock.
type ledger struct {
	sync.Mutex
	reports []api.Report
	counts  [done + 1]int
}

// keep the report of the job of a number.
func (l *ledger) keep(number int, r api.Report) {
	l.Lock()
	defer l.Unlock()
	l.reports[number] = r
	l.counts[r.Stage]++
}

// crew of hands with some jobs: the numbers of those that nobody has taken come over one channel; when none is left, the
// other one is closed.
type crew struct {
	ledger
	jobs []api.Job
	fuel int
	next chan int
	home chan struct{}
}

// newCrew: no job is taken yet.
func newCrew(l []api.Job, fuel int) *crew {
	return &crew{
		ledger: ledger{reports: make([]api.Report, len(l))},
		jobs:   l,
		fuel:   fuel,
		next:   make(chan int),
		home:   make(chan struct{}),
	}
}

// work of so many hands, until all jobs are done and all hands have gone.
func (c *crew) work(hands int) {
	var all sync.WaitGroup
	for range hands {
		all.Add(1)
		go func() {
			defer all.Done()
			c.hand()
		}()
	}
	for i := range c.jobs {
		c.next <- i
	}
	close(c.home)
	all.Wait()
}

// hand: takes job after job, until it may go home. It never has the choice: somebody has taken the last job before home
// is closed.
func (c *crew) hand() {
	for {
		select {
		case i := <-c.next:
			c.keep(i, report(c.jobs[i], c.fuel))
		case <-c.home:
			return
		}
	}
}
