package engine

import (
	"custody/api"
	"custody/dvp"
	"custody/sched"
)

// settle is a settlement by a worker.
type settle struct {
	told   api.Settle
	number func() int
}

// work looks once for an instruction that is ready, and tries to settle it; if there is none, it waits for work.
func (r *run) work(t *sched.Task, worker int) {
	if id, ok := r.take(t); ok {
		r.try(t, worker, id)
	} else {
		t.Park(workComes)
	}
}

// take takes the first instruction that is ready.
func (r *run) take(t *sched.Task) (int, bool) {
	t.Lock(r.mutex)
	id, ok := r.queue.Take()
	t.Unlock(r.mutex)
	return id, ok
}

// try settles an instruction that was taken, or gives it back. Its record may have become final meanwhile; its legs are the same ever.
func (r *run) try(t *sched.Task, worker, id int) {
	c, _ := r.cells.Last(recordKey(id))
	x := r.cells.Begin(t, dvp.LegKeys(id, c.Record.Legs))
	x.Also(r.mutex)
	changed, settled := dvp.Settle(view{x}, id)
	if !settled {
		if r.queue.Back(id) {
			t.Wake(workComes)
		}
		x.GiveUp()
		return
	}
	r.queue.Remove(id)
	r.touch(t, changed)
	e := &settle{told: api.Settle{Worker: worker, Id: id}, number: x.Number}
	r.settles = append(r.settles, e) // in this turn it gets its number too: so they rise
	x.Commit()
	e.told.At = r.tick()
}
