package tx_test

import (
	"cmp"
	"slices"

	"custody/api"
	"custody/proof"
	"custody/store"
)

// model is a second reckoning of tasks over a manager: no goroutines.
type model struct {
	*proof.Office
	shards  int
	clerks  []*clerk
	given   int
	done    map[int]bool
	list    []version
	readers []int // the numbers that are read now
	lines   []string
	seen    seen
}

// seen is how often things came about that a test must not miss.
type seen struct{ waited, parked, again, kept int }

func (a seen) and(b seen) seen {
	return seen{a.waited + b.waited, a.parked + b.parked, a.again + b.again, a.kept + b.kept}
}

// version is one under a key.
type version struct {
	k    api.Key
	n, v int
}

// clerk is a task of the model.
type clerk struct {
	*proof.Clerk
	deal *deal
}

// deal is a transaction of the model.
type deal struct {
	shards []int
	writes []version // as they were put
	also   []int
	number int
	ended  bool
}

func newModel(shards, clerks int) *model {
	m := &model{Office: proof.NewOffice(clerks), shards: min(max(shards, 1), api.MaxShards), done: map[int]bool{}}
	for _, c := range m.Clerks {
		m.clerks = append(m.clerks, &clerk{Clerk: c})
	}
	return m
}

// play is the run by these picks.
func (m *model) play(picks []int) {
	m.Play(picks)
	m.seen.waited = m.Waited
}

// What a manager holds

func (m *model) stable() int {
	n := 0
	for m.done[n+1] {
		n++
	}
	return n
}

// counts is the version that counts at a number.
func (m *model) counts(k api.Key, n int) (version, bool) {
	best, ok := version{}, false
	for _, x := range m.list {
		if x.k == k && x.n <= n && (!ok || x.n > best.n) {
			best, ok = x, true
		}
	}
	return best, ok
}

func (m *model) last(k api.Key) (int, bool) {
	x, ok := m.counts(k, most)
	return x.v, ok
}

func (m *model) keys() []api.Key {
	var out []api.Key
	for _, x := range m.list {
		if !slices.Contains(out, x.k) {
			out = append(out, x.k)
		}
	}
	slices.SortFunc(out, func(a, b api.Key) int {
		if a.Account != b.Account {
			return cmp.Compare(a.Account, b.Account)
		}
		return cmp.Compare(a.Asset, b.Asset)
	})
	return out
}

func (m *model) prune(k api.Key) {
	oldest := m.stable()
	newest, _ := m.counts(k, oldest)
	for _, n := range m.readers {
		oldest = min(oldest, n)
	}
	if keep, ok := m.counts(k, oldest); ok && keep != newest {
		m.seen.kept++
	}
	if keep, ok := m.counts(k, oldest); ok {
		m.list = slices.DeleteFunc(m.list, func(x version) bool { return x.k == k && x.n < keep.n })
	}
}

// Transactions

func (m *model) shard(k api.Key) int { return store.Shard(k, m.shards) }

func (m *model) begin(c *clerk, list []api.Key) {
	d := &deal{}
	var steps []proof.Step
	for shard := range m.shards {
		if slices.ContainsFunc(list, func(k api.Key) bool { return m.shard(k) == shard }) {
			d.shards = append(d.shards, shard)
			steps = append(steps, m.Lock(c.Clerk, shard))
		}
	}
	c.Next(append(steps, func() bool {
		c.deal = d
		return false
	})...)
}

func (m *model) holds(d *deal, k api.Key) bool {
	return !d.ended && slices.Contains(d.shards, m.shard(k))
}

func (m *model) get(d *deal, k api.Key) (int, bool) {
	if !m.holds(d, k) {
		return 0, false
	}
	for _, x := range slices.Backward(d.writes) {
		if x.k == k {
			return x.v, true
		}
	}
	return m.last(k)
}

func (m *model) put(d *deal, k api.Key, v int) bool {
	if m.holds(d, k) {
		d.writes = append(d.writes, version{k: k, v: v})
		return true
	}
	return false
}

func (m *model) also(c *clerk, mutex int, then func(ok bool)) {
	d := c.deal
	if d.ended || mutex < m.shards || slices.ContainsFunc(d.also, func(n int) bool { return n >= mutex }) {
		then(false)
		return
	}
	c.Next(m.Lock(c.Clerk, mutex), func() bool {
		d.also = append(d.also, mutex)
		then(true)
		return false
	})
}

func (m *model) release(c *clerk, l []int) {
	for _, mutex := range slices.Backward(l) {
		m.Unlock(c.Clerk, mutex)
	}
}

func (m *model) giveUp(c *clerk) {
	if !c.deal.ended {
		c.deal.ended = true
		m.release(c, c.deal.also)
		m.release(c, c.deal.shards)
	}
}

func (m *model) commit(c *clerk, then func(n int)) {
	d := c.deal
	if d.ended {
		then(0)
		return
	}
	m.given++
	d.number = m.given
	m.release(c, d.also)
	steps := []proof.Step{proof.Pause}
	for _, shard := range d.shards {
		steps = append(steps, func() bool {
			m.lay(d, shard)
			return true
		})
	}
	var wait proof.Step
	parked := 0
	wait = func() bool {
		if m.stable() < d.number {
			parked++
			m.seen.parked++
			m.seen.again += parked / 2
			c.Next(wait)
			return c.Park(0)
		}
		then(d.number)
		return false
	}
	c.Next(append(steps, func() bool {
		d.ended = true
		m.done[d.number] = true
		m.Wake(0)
		m.release(c, d.shards)
		return false
	}, wait)...)
}

// lay makes what was put last under each key of a shard a version.
func (m *model) lay(d *deal, shard int) {
	for _, w := range slices.Backward(d.writes) {
		if x, ok := m.counts(w.k, most); m.shard(w.k) != shard || ok && x.n == d.number {
			continue
		}
		m.list = append(m.list, version{w.k, d.number, w.v})
		m.prune(w.k)
	}
}

func (m *model) read(c *clerk, list []api.Key, then func(n int, values []int)) {
	n := m.stable()
	m.readers = append(m.readers, n)
	var values []int
	var steps []proof.Step
	for _, k := range list {
		steps = append(steps, func() bool {
			x, _ := m.counts(k, n)
			values = append(values, x.v)
			return true
		})
	}
	c.Next(append(steps, func() bool {
		at := slices.Index(m.readers, n)
		m.readers = slices.Delete(m.readers, at, at+1)
		then(n, values)
		return false
	})...)
}
