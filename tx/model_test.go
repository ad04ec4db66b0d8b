package tx_test

import (
	"cmp"
	"math/big"
	"slices"

	"custody/api"
	"custody/store"
)

// model is a second reckoning of tasks over a manager: no goroutines; what a clerk has still to do is a list of steps.
type model struct {
	shards  int
	clerks  []*clerk
	turns   int
	cut     bool
	holder  map[int]*clerk
	given   int
	done    map[int]bool
	list    []version
	readers []int // the numbers that are read now
	lines   []string
	seen    seen
}

// seen is how often things came about that a test must not miss.
type seen struct{ waited, parked, again, kept int }

func (a seen) and(b seen) seen {
	return seen{a.waited + b.waited, a.parked + b.parked, a.again + b.again, a.kept + b.kept}
}

// version is one under a key.
type version struct {
	k    api.Key
	n, v int
}

// step does something; true if the turn ends by it.
type step func() bool

// clerk is a task of the model.
type clerk struct {
	number int
	todo   []step
	state  byte // r: runnable, w: waits, p: parked, e: ended
	thing  int
	since  int // the turn in which it began to wait
	deal   *deal
}

// deal is a transaction of the model.
type deal struct {
	shards []int
	writes []version // as they were put
	also   []int
	number int
	ended  bool
}

func newModel(shards, clerks int) *model {
	m := &model{shards: min(max(shards, 1), api.MaxShards), holder: map[int]*clerk{}, done: map[int]bool{}}
	for n := range clerks {
		m.clerks = append(m.clerks, &clerk{number: n, state: 'r'})
	}
	return m
}

// next lays steps ahead of all that is still to do.
func (c *clerk) next(l ...step) { c.todo = append(l, c.todo...) }

// play is the run by these picks.
func (m *model) play(picks []int) {
	for {
		var able []*clerk
		for _, c := range m.clerks {
			if c.state == 'r' {
				able = append(able, c)
			}
		}
		if len(able) == 0 {
			return
		}
		if m.turns == len(picks) {
			m.cut = true
			return
		}
		var place big.Int
		place.Mod(big.NewInt(int64(picks[m.turns])), big.NewInt(int64(len(able))))
		m.turns++
		m.turn(able[place.Int64()])
	}
}

func (m *model) turn(c *clerk) {
	for len(c.todo) > 0 {
		s := c.todo[0]
		c.todo = c.todo[1:]
		if s() {
			return
		}
	}
	c.state = 'e'
}

// trace is what the run came to; nothing is noted in it.
func (m *model) trace() api.Trace {
	x := api.Trace{Turns: m.turns, Cut: m.cut}
	for _, c := range m.clerks {
		waiting, parked := -1, -1
		switch c.state {
		case 'w':
			waiting = c.thing
		case 'p':
			parked = c.thing
		}
		x.Ended = append(x.Ended, c.state == 'e')
		x.Waiting = append(x.Waiting, waiting)
		x.Parked = append(x.Parked, parked)
	}
	return x
}

// What a task asks of its runtime

func pause() bool { return true }

func (m *model) lock(c *clerk, mutex int) step {
	return func() bool {
		if m.holder[mutex] == nil {
			m.holder[mutex] = c
		} else {
			c.state, c.thing, c.since = 'w', mutex, m.turns
			m.seen.waited++
		}
		return true
	}
}

func (m *model) unlock(c *clerk, mutex int) bool {
	if m.holder[mutex] != c {
		return false
	}
	delete(m.holder, mutex)
	var longest *clerk
	for _, o := range m.clerks {
		if o.state == 'w' && o.thing == mutex && (longest == nil || o.since < longest.since) {
			longest = o
		}
	}
	if longest != nil {
		longest.state = 'r'
		m.holder[mutex] = longest
	}
	return true
}

func (c *clerk) park(event int) bool {
	c.state, c.thing = 'p', event
	return true
}

func (m *model) wake(event int) int {
	n := 0
	for _, c := range m.clerks {
		if c.state == 'p' && c.thing == event {
			c.state = 'r'
			n++
		}
	}
	return n
}

// What a manager holds

func (m *model) stable() int {
	n := 0
	for m.done[n+1] {
		n++
	}
	return n
}

// counts is the version that counts at a number.
func (m *model) counts(k api.Key, n int) (version, bool) {
	best, ok := version{}, false
	for _, x := range m.list {
		if x.k == k && x.n <= n && (!ok || x.n > best.n) {
			best, ok = x, true
		}
	}
	return best, ok
}

func (m *model) last(k api.Key) (int, bool) {
	x, ok := m.counts(k, most)
	return x.v, ok
}

func (m *model) keys() []api.Key {
	var out []api.Key
	for _, x := range m.list {
		if !slices.Contains(out, x.k) {
			out = append(out, x.k)
		}
	}
	slices.SortFunc(out, func(a, b api.Key) int {
		if a.Account != b.Account {
			return cmp.Compare(a.Account, b.Account)
		}
		return cmp.Compare(a.Asset, b.Asset)
	})
	return out
}

func (m *model) prune(k api.Key) {
	oldest := m.stable()
	newest, _ := m.counts(k, oldest)
	for _, n := range m.readers {
		oldest = min(oldest, n)
	}
	if keep, ok := m.counts(k, oldest); ok && keep != newest {
		m.seen.kept++
	}
	if keep, ok := m.counts(k, oldest); ok {
		m.list = slices.DeleteFunc(m.list, func(x version) bool { return x.k == k && x.n < keep.n })
	}
}

// Transactions

func (m *model) shard(k api.Key) int { return store.Shard(k, m.shards) }

func (m *model) begin(c *clerk, list []api.Key) {
	d := &deal{}
	var steps []step
	for shard := range m.shards {
		if slices.ContainsFunc(list, func(k api.Key) bool { return m.shard(k) == shard }) {
			d.shards = append(d.shards, shard)
			steps = append(steps, m.lock(c, shard))
		}
	}
	c.next(append(steps, func() bool {
		c.deal = d
		return false
	})...)
}

func (m *model) holds(d *deal, k api.Key) bool {
	return !d.ended && slices.Contains(d.shards, m.shard(k))
}

func (m *model) get(d *deal, k api.Key) (int, bool) {
	if !m.holds(d, k) {
		return 0, false
	}
	for _, x := range slices.Backward(d.writes) {
		if x.k == k {
			return x.v, true
		}
	}
	return m.last(k)
}

func (m *model) put(d *deal, k api.Key, v int) bool {
	if m.holds(d, k) {
		d.writes = append(d.writes, version{k: k, v: v})
		return true
	}
	return false
}

func (m *model) also(c *clerk, mutex int, then func(ok bool)) {
	d := c.deal
	if d.ended || mutex < m.shards || slices.ContainsFunc(d.also, func(n int) bool { return n >= mutex }) {
		then(false)
		return
	}
	c.next(m.lock(c, mutex), func() bool {
		d.also = append(d.also, mutex)
		then(true)
		return false
	})
}

func (m *model) release(c *clerk, l []int) {
	for _, mutex := range slices.Backward(l) {
		m.unlock(c, mutex)
	}
}

func (m *model) giveUp(c *clerk) {
	if !c.deal.ended {
		c.deal.ended = true
		m.release(c, c.deal.also)
		m.release(c, c.deal.shards)
	}
}

func (m *model) commit(c *clerk, then func(n int)) {
	d := c.deal
	if d.ended {
		then(0)
		return
	}
	m.given++
	d.number = m.given
	m.release(c, d.also)
	steps := []step{pause}
	for _, shard := range d.shards {
		steps = append(steps, func() bool {
			m.lay(d, shard)
			return true
		})
	}
	var wait step
	parked := 0
	wait = func() bool {
		if m.stable() < d.number {
			parked++
			m.seen.parked++
			m.seen.again += parked / 2
			c.next(wait)
			return c.park(0)
		}
		then(d.number)
		return false
	}
	c.next(append(steps, func() bool {
		d.ended = true
		m.done[d.number] = true
		m.wake(0)
		m.release(c, d.shards)
		return false
	}, wait)...)
}

// lay makes what was put last under each key of a shard a version.
func (m *model) lay(d *deal, shard int) {
	for _, w := range slices.Backward(d.writes) {
		if x, ok := m.counts(w.k, most); m.shard(w.k) != shard || ok && x.n == d.number {
			continue
		}
		m.list = append(m.list, version{w.k, d.number, w.v})
		m.prune(w.k)
	}
}

func (m *model) read(c *clerk, list []api.Key, then func(n int, values []int)) {
	n := m.stable()
	m.readers = append(m.readers, n)
	var values []int
	var steps []step
	for _, k := range list {
		steps = append(steps, func() bool {
			x, _ := m.counts(k, n)
			values = append(values, x.v)
			return true
		})
	}
	c.next(append(steps, func() bool {
		at := slices.Index(m.readers, n)
		m.readers = slices.Delete(m.readers, at, at+1)
		then(n, values)
		return false
	})...)
}
