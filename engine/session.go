package engine

import (
	"errors"
	"slices"

	"custody/api"
	"custody/dvp"
	"custody/sched"
)

// call is an operation of a session that was invoked.
type call struct {
	told   api.Call
	number func() int // of its transaction, as soon as that has begun: its number as it is now
}

// do does an operation of a session. Nothing of the answer is told ahead of the return, as the run may be cut.
func (r *run) do(t *sched.Task, session, index int, row []int64) {
	o, err := read(r.config, row)
	e := &call{told: api.Call{Session: session, Index: index, Op: o, Invoked: r.tick()}}
	r.calls[session] = append(r.calls[session], e)
	t.Yield()
	switch {
	case err != nil:
		e.told.Answer = refused(err)
	case o.Code == api.OpSnapshot:
		e.told.Number, e.told.Answer = r.snapshot(t, o)
	default:
		e.told.Answer = r.transact(t, o, e)
	}
	e.told.Returned = r.tick()
}

// refused is the answer of an operation that is wrong by itself.
func refused(err error) api.Answer {
	var no api.Errno
	errors.As(err, &no)
	return api.Answer{Err: no}
}

// snapshot reads positions at one number: that number, the answer. The marks are copied, as others may read the same cells.
func (r *run) snapshot(t *sched.Task, o api.Op) (int, api.Answer) {
	n, cells := r.cells.Read(t, o.Pairs)
	var a api.Answer
	for _, c := range cells {
		a.Positions = append(a.Positions, api.Position{Avail: c.Position.Avail, Marks: slices.Clone(c.Position.Marks)})
	}
	return n, a
}

// transact does an operation that is right by itself, and no Snapshot, as a transaction: its answer. One that is refused commits too: by its number it has a place among all others.
func (r *run) transact(t *sched.Task, o api.Op, e *call) api.Answer {
	x := r.cells.Begin(t, dvp.Keys(o))
	e.number = x.Number
	if o.Code != api.OpStatus {
		x.Also(r.mutex)
	}
	a, changed := dvp.Apply(view{x}, o, !r.queue.Full())
	switch {
	case o.Code == api.OpSubmit && a.Status == api.Pending:
		r.queue.Put(o.Id, waitsFor(o.Id, o.Legs)) // it has room, and no entry of an id that had no record
	case o.Code == api.OpCancel && a.Err == api.OK:
		r.queue.Remove(o.Id)
	}
	r.touch(t, changed)
	x.Commit()
	return a
}
