package engine_test

import (
	"slices"

	"custody/api"
	"custody/guard"
	"custody/proof"
	"custody/store"
)

// model is a second reckoning of a run: no goroutines, no cells, no versions. What an operation does is done to a book in the turn in which it gets its number; the book behind each number is kept.
type model struct {
	*proof.Office
	config  api.Config
	behind  []*proof.Book // behind each number, from 0 on
	done    map[int]bool
	time    int
	waiters map[int]*waiter // by ids, those that have left the queue too
	now     int             // by which is told what was touched and taken when
	touched map[api.Key]int
	calls   [][]*api.Call
	settles []*api.Settle
	seen    seen
}

// waiter is what is known of an instruction that waits or has waited.
type waiter struct {
	keys  []api.Key
	since int // when it was put, or taken last
	taken bool
}

// seen is how often things came about that a test must not miss.
type seen struct {
	waited, parked, again int // for mutexes; in Commit; there more than once
	vain, backs, woken    int // looks for work in vain; what was given back, idle, and ready
	lost                  int // what was cancelled when a worker had taken it
	beside                int // snapshots that read a number below the newest
	settles               int
}

func (a *seen) add(b seen) {
	*a = seen{a.waited + b.waited, a.parked + b.parked, a.again + b.again, a.vain + b.vain, a.backs + b.backs, a.woken + b.woken, a.lost + b.lost, a.beside + b.beside, a.settles + b.settles}
}

// few tells whether something of it came about less often than so many times.
func (a seen) few(n int) bool {
	return min(a.waited, a.parked, a.again, a.vain, a.backs, a.woken, a.lost, a.beside, a.settles) < n
}

// reckoned is what a run comes to by the model.
func reckoned(c api.Config, sessions [][][]int64, picks []int) (api.Result, seen) {
	m := &model{Office: proof.NewOffice(len(sessions) + c.Workers), config: c, behind: []*proof.Book{proof.NewBook()},
		done: map[int]bool{}, waiters: map[int]*waiter{}, touched: map[api.Key]int{}, calls: make([][]*api.Call, len(sessions))}
	for n, rows := range sessions {
		for index, row := range rows {
			m.Clerks[n].Todo = append(m.Clerks[n].Todo, m.call(m.Clerks[n], index, row))
		}
	}
	for n := range c.Workers {
		m.work(m.Clerks[len(sessions)+n], n)
	}
	m.Play(picks)
	m.seen.waited, m.seen.settles = m.Waited, len(m.settles)
	return m.result(), m.seen
}

func (m *model) result() api.Result {
	r := api.Result{Quiet: !m.Cut, Turns: m.Turns}
	for _, l := range m.calls {
		for _, e := range l {
			r.Calls = append(r.Calls, *e)
		}
	}
	for _, e := range m.settles {
		r.Settles = append(r.Settles, *e)
	}
	for _, mutex := range m.Trace().Waiting {
		if mutex != -1 {
			r.Stuck++
		}
	}
	if r.Quiet {
		r.State = m.newest().State()
	}
	return r
}

func (m *model) tick() int {
	m.time++
	return m.time
}

// newest is the book behind all numbers that were given.
func (m *model) newest() *proof.Book { return m.behind[len(m.behind)-1] }

func (m *model) stable() int {
	n := 0
	for m.done[n+1] {
		n++
	}
	return n
}

// judged is the operation of a row, and what is wrong with it by itself.
func judged(c api.Config, row []int64) (api.Op, api.Errno) {
	o, err := guard.Decode(row)
	for no := api.ErrArg; no <= api.ErrKind; no++ {
		if err == no {
			return o, no
		}
	}
	return o, proof.Judge(c, o)
}

// Sessions

// call is the step by which an operation is invoked; it lays the others ahead.
func (m *model) call(c *proof.Clerk, index int, row []int64) proof.Step {
	return func() bool {
		o, no := judged(m.config, row)
		e := &api.Call{Session: c.Number, Index: index, Op: o, Invoked: m.tick()}
		m.calls[c.Number] = append(m.calls[c.Number], e)
		returns := func(a api.Answer) proof.Step {
			return func() bool {
				e.Answer, e.Returned = a, m.tick()
				return false
			}
		}
		switch {
		case no != api.OK:
			c.Next(returns(api.Answer{Err: no}))
		case o.Code == api.OpSnapshot:
			c.Next(m.read(c, o, e, returns))
		default:
			var a api.Answer
			m.deal(c, keysOf(o), o.Code != api.OpStatus, func() bool {
				a = m.apply(o)
				e.Number = len(m.behind) - 1
				return true
			}, func() { returns(a)() })
		}
		return true
	}
}

// read is the step of a Snapshot that chooses the number; it lays the others ahead.
func (m *model) read(c *proof.Clerk, o api.Op, e *api.Call, returns func(a api.Answer) proof.Step) proof.Step {
	return func() bool {
		n := m.stable()
		if n < len(m.behind)-1 {
			m.seen.beside++
		}
		steps := slices.Repeat([]proof.Step{proof.Pause}, len(o.Pairs))
		c.Next(append(steps, func() bool {
			e.Number = n
			return returns(m.behind[n].Do(m.config, o, true))()
		})...)
		return false
	}
}

// apply does an operation to the newest book.
func (m *model) apply(o api.Op) api.Answer {
	b := m.newest().Copy()
	a := b.Do(m.config, o, len(b.Queue) < m.config.Queue)
	switch {
	case o.Code == api.OpSubmit && a.Status == api.Pending:
		m.waiters[o.Id] = &waiter{keys: keysOf(o)[1:], since: m.now}
	case o.Code == api.OpCancel && a.Err == api.OK && m.waiters[o.Id].taken:
		m.seen.lost++
	}
	m.number(b)
	return a
}

// number makes a book the one behind the next number, and touches the positions that changed.
func (m *model) number(b *proof.Book) {
	was := m.newest()
	m.behind = append(m.behind, b)
	ready := len(m.ready())
	m.now++
	for _, held := range []*proof.Book{was, b} {
		for k := range held.Held {
			if !proof.SamePosition(was.Position(k), b.Position(k)) {
				m.touched[k] = m.now
			}
		}
	}
	if len(m.ready()) > ready {
		m.Wake(1)
	}
}

// keysOf are the keys of an operation, the record's first, in no other order.
func keysOf(o api.Op) []api.Key {
	if o.Code < api.OpSubmit {
		return proof.Keys(o.Account, o.Asset)
	}
	l := proof.Keys(-1, o.Id)
	for _, x := range o.Legs {
		l = append(l, proof.Keys(x.From, x.Asset, x.To, x.Asset)...)
	}
	return l
}

// Workers

// work lays the steps of a worker ahead: it looks for work, and again.
func (m *model) work(c *proof.Clerk, n int) {
	c.Next(m.Lock(c, m.config.Shards), func() bool {
		ready := m.ready()
		m.Unlock(c, m.config.Shards)
		m.work(c, n)
		if len(ready) == 0 {
			m.seen.vain++
			return c.Park(1)
		}
		m.now++
		w := m.waiters[ready[0]]
		w.since, w.taken = m.now, true
		m.try(c, n, ready[0])
		return false
	})
}

// ready are those of the queue that are not taken, and one of whose keys was touched since they were put and last taken.
func (m *model) ready() []int {
	return slices.DeleteFunc(slices.Clone(m.newest().Queue), func(id int) bool { return m.waiters[id].taken || !m.woken(id) })
}

func (m *model) woken(id int) bool {
	w := m.waiters[id]
	return slices.ContainsFunc(w.keys, func(k api.Key) bool { return m.touched[k] > w.since })
}

// try lays the steps ahead by which a worker tries to settle.
func (m *model) try(c *proof.Clerk, n, id int) {
	e := &api.Settle{Worker: n, Id: id}
	m.deal(c, keysOf(proof.Submit(id, m.newest().Records[id].Legs...)), true, func() bool {
		b := m.newest().Copy()
		if !b.Settle(id) {
			m.back(id)
			return false
		}
		m.number(b)
		e.Number = len(m.behind) - 1
		m.settles = append(m.settles, e)
		return true
	}, func() { e.At = m.tick() })
}

// back gives what was taken back to the queue, if it is there still.
func (m *model) back(id int) {
	if !slices.Contains(m.newest().Queue, id) {
		return
	}
	m.waiters[id].taken = false
	if m.woken(id) {
		m.seen.woken++
		m.Wake(1)
	} else {
		m.seen.backs++
	}
}

// Transactions

// deal lays the steps of a transaction ahead: do is done in the turn in which it would get its number; false: it is given up. Then comes when it is committed.
func (m *model) deal(c *proof.Clerk, keys []api.Key, queued bool, do func() bool, then func()) {
	var shards []int
	var steps []proof.Step
	for shard := range m.config.Shards {
		if slices.ContainsFunc(keys, func(k api.Key) bool { return store.Shard(k, m.config.Shards) == shard }) {
			shards = append(shards, shard)
			steps = append(steps, m.Lock(c, shard))
		}
	}
	if queued {
		steps = append(steps, m.Lock(c, m.config.Shards))
	}
	c.Next(append(steps, func() bool {
		commits := do()
		m.Unlock(c, m.config.Shards)
		if commits {
			m.commit(c, shards, len(m.behind)-1, then)
		} else {
			m.release(c, shards)
		}
		return false
	})...)
}

func (m *model) release(c *proof.Clerk, shards []int) {
	for _, shard := range slices.Backward(shards) {
		m.Unlock(c, shard)
	}
}

// commit lays the steps ahead of a transaction that has this number.
func (m *model) commit(c *proof.Clerk, shards []int, number int, then func()) {
	parked := 0
	var wait proof.Step
	wait = func() bool {
		if m.stable() >= number {
			then()
			return false
		}
		if parked++; parked == 2 {
			m.seen.again++
		}
		m.seen.parked++
		c.Next(wait)
		return c.Park(0)
	}
	steps := slices.Repeat([]proof.Step{proof.Pause}, 1+len(shards))
	c.Next(append(steps, func() bool {
		m.done[number] = true
		m.Wake(0)
		m.release(c, shards)
		return false
	}, wait)...)
}
