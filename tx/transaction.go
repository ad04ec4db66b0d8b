package tx

import (
	"sync/atomic"

	"custody/api"
	"custody/locks"
	"custody/sched"
)

// Tx is a transaction: it holds its shards' mutexes till it ends.
type Tx[V any] struct {
	*sched.Task
	manager *Manager[V]
	shards  []int                 // those that are held, rising
	parts   map[int]map[api.Key]V // what was put, by these shards; none behind the end
	also    []int                 // the other mutexes that are held, rising
	ended   bool
	number  atomic.Int64 // as who asks for it may have no baton
}

// Get is a key's value, the transaction's own writes seen.
func (x *Tx[V]) Get(k api.Key) (V, bool) {
	part, held := x.parts[x.manager.shard(k)]
	if !held {
		var none V
		return none, false
	}
	if v, ok := part[k]; ok {
		return v, true
	}
	return x.manager.Last(k)
}

// Put lays a value down, to be seen by others when the transaction commits; false: the key's shard is not held.
func (x *Tx[V]) Put(k api.Key, v V) bool {
	part, held := x.parts[x.manager.shard(k)]
	if held {
		part[k] = v
	}
	return held
}

// Also takes one more mutex, greater than all that are held. So no two transactions wait for one another in a ring.
func (x *Tx[V]) Also(mutex int) bool {
	if x.ended || mutex < x.manager.store.Shards() {
		return false
	}
	if n := len(x.also); n > 0 && mutex <= x.also[n-1] {
		return false
	}
	x.Lock(mutex)
	x.also = append(x.also, mutex)
	return true
}

// Number is the transaction's number, 0 as long as it has none.
func (x *Tx[V]) Number() int { return int(x.number.Load()) }

// Commit makes the writes count: the transaction's number. It answers when all with lesser numbers count too.
func (x *Tx[V]) Commit() int {
	if x.ended {
		return 0
	}
	all := &x.manager.numbers
	n := all.next()
	x.number.Store(int64(n))
	locks.Release(x.Task, x.also)
	x.Yield()
	x.manager.lay(n, x.shards, x.parts, x.Yield)
	all.finish(n, x.Wake)
	locks.Release(x.Task, x.shards)
	x.end()
	all.await(n, x.Park)
	return n
}

// GiveUp ends the transaction without a trace.
func (x *Tx[V]) GiveUp() {
	if x.ended {
		return
	}
	locks.Release(x.Task, x.also)
	locks.Release(x.Task, x.shards)
	x.end()
}

// end lets go of all that only a transaction needs that goes on.
func (x *Tx[V]) end() {
	x.ended = true
	x.shards, x.parts, x.also = nil, nil, nil
}
