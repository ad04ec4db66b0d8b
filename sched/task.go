package sched

// baton is what the one task has that runs.
type baton struct{}

// Task is what a task asks of its runtime.
type Task struct {
	books  *books
	number int
	mine   chan baton    // by it the task gets the baton
	back   chan baton    // by it the runtime gets the baton back
	end    chan struct{} // closed when the run is over, and the task hasn't ended
	gone   bool          // whether the task was told that the run is over
}

// work is all that the task does, on its goroutine.
func (t *Task) work(f func(*Task)) {
	// However f is left, the runtime goes on.
	defer func() {
		if t.gone {
			recover()
		} else {
			t.books.end(t.number)
		}
		t.back <- baton{}
	}()
	t.await()
	if f != nil {
		f(t)
	}
}

// giveUp ends a task that waits for the baton. Tasks are given up one by one, as what their functions have put off by defer is done then.
func (t *Task) giveUp() {
	close(t.end)
	<-t.back
}

// await waits for the baton. If the run is over, it gives the task's function up, wherever that stands: work catches it.
func (t *Task) await() {
	select {
	case <-t.mine:
	case <-t.end:
		t.gone = true
		panic("the run is over")
	}
}

// pause ends the turn. A function that catches the end by itself, and goes on, has no baton to give back.
func (t *Task) pause() {
	if !t.gone {
		t.back <- baton{}
	}
	t.await()
}

// Number is the task's.
func (t *Task) Number() int { return t.number }

// Yield lets another one run.
func (t *Task) Yield() { t.pause() }

// Lock takes a mutex, or waits for it.
func (t *Task) Lock(m int) {
	t.books.lock(t.number, m)
	t.pause()
}

// Unlock gives a mutex back.
func (t *Task) Unlock(m int) bool { return t.books.unlock(t.number, m) }

// Park waits till an event is waked.
func (t *Task) Park(e int) {
	t.books.park(t.number, e)
	t.pause()
}

// Wake lets all that wait for an event run on.
func (t *Task) Wake(e int) int { return t.books.wake(e) }

// Note lays an event into the trace.
func (t *Task) Note(step, value int) { t.books.note(t.number, step, value) }

// Now is how many turns there have been, this one counted.
func (t *Task) Now() int { return t.books.now() }
