package sched

import (
	"slices"
	"sync"

	"custody/api"
)

// What a task may do next.
const (
	runnable = iota
	waits
	parked
	ended
)

// stand is how a task stands; thing is the mutex for which it waits, or the event for which it is parked.
type stand struct{ state, thing int }

// on is the thing for which a task in this state stands still, or -1.
func (s stand) on(state int) int {
	if s.state != state {
		return -1
	}
	return s.thing
}

// lock is a mutex that is held; who waits for it stands in the queue, the one that has waited longest first.
type lock struct {
	holder int
	queue  []int
}

// books tell what was put in, how all tasks stand, and what has come about.
type books struct {
	mu     sync.Mutex // guards all that stands below it
	count  int        // how many tasks were put in, behind the first run too
	begun  bool
	works  []func(*Task) // what the tasks do, till a run begins
	picks  []int         // those that are not used yet
	turns  int
	cut    bool
	stands []stand
	ready  []int         // the tasks that are runnable, rising: picks are places in it
	locks  map[int]*lock // a mutex that isn't there is free
	parked map[int][]int // by events
	events []api.Event
}

// put puts a task in. Behind the first run it is counted alone, as its function is never called.
func (b *books) put(f func(*Task)) int {
	b.mu.Lock()
	defer b.mu.Unlock()
	if !b.begun {
		b.works = append(b.works, f)
	}
	b.count++
	return b.count - 1
}

// open begins the run: it hands out what the tasks do; false if there was a run already.
func (b *books) open() ([]func(*Task), bool) {
	b.mu.Lock()
	defer b.mu.Unlock()
	if b.begun {
		return nil, false
	}
	b.begun = true
	works := b.works
	b.works = nil
	b.stands = make([]stand, len(works))
	for n := range works {
		b.ready = append(b.ready, n)
	}
	b.locks = map[int]*lock{}
	b.parked = map[int][]int{}
	return works, true
}

// next is the task that has the next turn; false if the run is over.
func (b *books) next() (int, bool) {
	b.mu.Lock()
	defer b.mu.Unlock()
	k := len(b.ready)
	if k == 0 {
		return 0, false
	}
	if len(b.picks) == 0 {
		b.cut = true
		return 0, false
	}
	// A remainder has its number's sign, but a place is never below 0.
	place := (b.picks[0]%k + k) % k
	b.picks = b.picks[1:]
	b.turns++
	return b.ready[place], true
}

// close ends the run: what it came to is handed out, and nothing of it is kept.
func (b *books) close() api.Trace {
	b.mu.Lock()
	defer b.mu.Unlock()
	x := api.Trace{Events: b.events, Turns: b.turns, Cut: b.cut}
	for _, s := range b.stands {
		x.Ended = append(x.Ended, s.state == ended)
		x.Waiting = append(x.Waiting, s.on(waits))
		x.Parked = append(x.Parked, s.on(parked))
	}
	b.picks, b.stands, b.ready, b.locks, b.parked, b.events = nil, nil, nil, nil, nil, nil
	return x
}

// rest takes the task that has the baton, and so is runnable, out of those that are. Who asks it has the mutex.
func (b *books) rest(task int, s stand) {
	b.stands[task] = s
	at, _ := slices.BinarySearch(b.ready, task)
	b.ready = slices.Delete(b.ready, at, at+1)
}

// rouse puts tasks to those that are runnable. Who asks it has the mutex.
func (b *books) rouse(tasks ...int) {
	for _, n := range tasks {
		b.stands[n] = stand{state: runnable}
	}
	b.ready = append(b.ready, tasks...)
	slices.Sort(b.ready)
}
