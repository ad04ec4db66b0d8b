package engine

import (
	"sync/atomic"

	"custody/api"
	"custody/dvp"
	"custody/queue"
	"custody/sched"
	"custody/tx"
)

// ofRecords stands in the place of an account in the keys of records.
const ofRecords = -1

// workComes is the event for which a worker is parked that finds nothing ready.
const workComes = 1

// run is what the tasks of a run share: who has the baton may use it. What hangs on the queue is done by who holds its mutex, so that the queue's order is that of the numbers.
type run struct {
	config  api.Config
	cells   *tx.Manager[api.Cell]
	queue   *queue.Queue
	mutex   int          // the queue's, behind those of all shards
	clock   atomic.Int64 // how often the time was told
	calls   [][]*call    // of each session, of its operations that were invoked
	settles []*settle    // of those that have a number, rising by it
}

func newRun(c api.Config, sessions int) *run {
	return &run{
		config: c,
		cells:  tx.New[api.Cell](c.Shards),
		queue:  queue.New(c.Queue),
		mutex:  c.Shards,
		calls:  make([][]*call, sessions),
	}
}

// tick tells the time.
func (r *run) tick() int { return int(r.clock.Add(1)) }

// touch tells the queue of positions that have changed, and workers, if an instruction is ready by that.
func (r *run) touch(t *sched.Task, changed []api.Key) {
	if r.queue.Touch(changed) > 0 {
		t.Wake(workComes)
	}
}

// recordKey is the key of an instruction's record.
func recordKey(id int) api.Key { return api.Key{Account: ofRecords, Asset: id} }

// waitsFor are the keys of which one must change, ahead of an instruction's being looked at again.
func waitsFor(id int, legs []api.Leg) []api.Key {
	return dvp.LegKeys(id, legs)[1:] // the record's key is the first, as no account of theirs is below 0
}

// view is what dvp reads and writes in a transaction.
type view struct{ x *tx.Tx[api.Cell] }

// Get is the cell under a key; the zero one, if nothing stands there.
func (v view) Get(k api.Key) api.Cell {
	c, _ := v.x.Get(k)
	return c
}

// Put lays another one there.
func (v view) Put(k api.Key, c api.Cell) { v.x.Put(k, c) }
