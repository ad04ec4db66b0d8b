package sched

import "custody/api"

// What tasks ask of the books; task is the one that asks.

func (b *books) now() int {
	b.mu.Lock()
	defer b.mu.Unlock()
	return b.turns
}

func (b *books) note(task, step, value int) {
	b.mu.Lock()
	defer b.mu.Unlock()
	b.events = append(b.events, api.Event{Task: task, Step: step, Value: value})
}

func (b *books) end(task int) {
	b.mu.Lock()
	defer b.mu.Unlock()
	b.rest(task, stand{state: ended})
}

func (b *books) lock(task, m int) {
	b.mu.Lock()
	defer b.mu.Unlock()
	l := b.locks[m]
	if l == nil {
		b.locks[m] = &lock{holder: task}
		return
	}
	l.queue = append(l.queue, task)
	b.rest(task, stand{waits, m})
}

func (b *books) unlock(task, m int) bool {
	b.mu.Lock()
	defer b.mu.Unlock()
	l := b.locks[m]
	if l == nil || l.holder != task {
		return false
	}
	if len(l.queue) == 0 {
		delete(b.locks, m)
		return true
	}
	l.holder, l.queue = l.queue[0], l.queue[1:]
	b.rouse(l.holder)
	return true
}

func (b *books) park(task, e int) {
	b.mu.Lock()
	defer b.mu.Unlock()
	b.parked[e] = append(b.parked[e], task)
	b.rest(task, stand{parked, e})
}

func (b *books) wake(e int) int {
	b.mu.Lock()
	defer b.mu.Unlock()
	l := b.parked[e]
	delete(b.parked, e)
	b.rouse(l...)
	return len(l)
}
