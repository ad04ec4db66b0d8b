// Package sched is layer 8: see shared/doc/08-sched.md.
package sched

import (
	"slices"
	"sync"

	"custody/api"
)

// Runtime runs tasks of which one has the baton at a time.
type Runtime struct{ books books }

// New is a runtime without tasks; picks say who is next.
func New(picks []int) *Runtime { return &Runtime{books{picks: slices.Clone(picks)}} }

// Go puts one more task in, ahead of Run; its number is the next, from 0 on.
func (r *Runtime) Go(f func(*Task)) int { return r.books.put(f) }

// Run runs the tasks till none can run, or the picks are used up; all of them have ended then.
func (r *Runtime) Run() api.Trace {
	works, first := r.books.open()
	if !first {
		return api.Trace{}
	}
	var all sync.WaitGroup
	back := make(chan baton)
	tasks := make([]*Task, len(works))
	for n, f := range works {
		t := &Task{books: &r.books, number: n, mine: make(chan baton), back: back, end: make(chan struct{})}
		tasks[n] = t
		all.Add(1)
		go func() {
			defer all.Done()
			t.work(f)
		}()
	}
	for n, ok := r.books.next(); ok; n, ok = r.books.next() {
		tasks[n].mine <- baton{}
		<-back
	}
	// The trace is told ahead of the end, so that no task that is given up can touch it.
	x := r.books.close()
	for n, t := range tasks {
		if !x.Ended[n] {
			t.giveUp()
		}
	}
	all.Wait()
	return x
}
