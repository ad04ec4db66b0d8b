package tx_test

import (
	"fmt"
	"slices"
	"testing"

	"custody/api"
	"custody/proof"
	"custody/sched"
)

// op is what a task asks; what it is answered is told as a line.
type op struct {
	kind string
	keys []api.Key
	k    api.Key
	n    int // a value, a mutex, an event, or a task
}

// line tells what was answered to an op, and when.
func line(task, turn int, o op, answers ...any) string {
	return fmt.Sprintln(append([]any{"task", task, "turn", turn, o.kind, o.keys, o.k, o.n, "is"}, answers...)...)
}

// stage is tasks over a manager that do ops.
type stage struct {
	managed
	deals []begun // of each task, its newest transaction
	lines []string
}

// do does an op: what it is answered.
func (s *stage) do(t *sched.Task, task int, o op) []any {
	x := s.deals[task]
	switch o.kind {
	case "begin":
		s.deals[task] = s.begin(t, o.keys...)
	case "get":
		v, ok := x.get(o.k)
		return []any{v, ok}
	case "put":
		return []any{x.put(o.k, o.n)}
	case "also":
		return []any{x.Also(o.n)}
	case "commit":
		return []any{x.Commit()}
	case "give up":
		x.GiveUp()
	case "number":
		if other := s.deals[o.n]; other != nil {
			return []any{other.Number()}
		}
	case "read":
		n, values := s.read(t, o.keys...)
		return []any{n, values}
	default:
		return s.doPlain(t, o)
	}
	return nil
}

// doPlain does an op that needs no transaction.
func (s *stage) doPlain(t *sched.Task, o op) []any {
	switch o.kind {
	case "stable":
		return []any{s.Stable()}
	case "keys":
		return []any{s.Keys()}
	case "last":
		v, ok := s.last(o.k)
		return []any{v, ok}
	case "versions":
		return []any{s.Versions()}
	case "yield":
		t.Yield()
	case "lock":
		t.Lock(o.n)
	case "unlock":
		return []any{t.Unlock(o.n)}
	case "park":
		t.Park(o.n)
	case "wake":
		return []any{t.Wake(o.n)}
	}
	return nil
}

// played runs scripts over a manager.
func played(m managed, scripts [][]op, picks []int) (*stage, api.Trace) {
	s := &stage{managed: m, deals: make([]begun, len(scripts))}
	r := sched.New(picks)
	for task, ops := range scripts {
		r.Go(func(t *sched.Task) {
			for _, o := range ops {
				answers := s.do(t, task, o)
				s.lines = append(s.lines, line(task, t.Now(), o, answers...))
			}
		})
	}
	return s, r.Run()
}

// reckoned runs scripts over the model.
func reckoned(shards int, scripts [][]op, picks []int) *model {
	m := newModel(shards, len(scripts))
	for n, ops := range scripts {
		c := m.clerks[n]
		for _, o := range ops {
			c.Todo = append(c.Todo, func() bool {
				return m.do(c, o, func(answers ...any) { m.lines = append(m.lines, line(n, m.Turns, o, answers...)) })
			})
		}
	}
	m.play(picks)
	return m
}

// do does an op, and then tells what it is answered.
func (m *model) do(c *clerk, o op, tell func(answers ...any)) bool {
	d := c.deal
	switch o.kind {
	case "begin":
		c.Next(func() bool {
			tell()
			return false
		})
		m.begin(c, o.keys)
	case "get":
		v, ok := m.get(d, o.k)
		tell(v, ok)
	case "put":
		tell(m.put(d, o.k, o.n))
	case "also":
		m.also(c, o.n, func(ok bool) { tell(ok) })
	case "commit":
		m.commit(c, func(n int) { tell(n) })
	case "give up":
		m.giveUp(c)
		tell()
	case "number":
		if other := m.clerks[o.n].deal; other != nil {
			tell(other.number)
		} else {
			tell()
		}
	case "read":
		m.read(c, o.keys, func(n int, values []int) { tell(n, values) })
	default:
		return m.doPlain(c, o, tell)
	}
	return false
}

// doPlain does an op that needs no transaction.
func (m *model) doPlain(c *clerk, o op, tell func(answers ...any)) bool {
	later := func() bool {
		tell()
		return false
	}
	switch o.kind {
	case "stable":
		tell(m.stable())
	case "keys":
		tell(m.keys())
	case "last":
		v, ok := m.last(o.k)
		tell(v, ok)
	case "versions":
		tell(len(m.list))
	case "yield":
		c.Next(later)
		return true
	case "lock":
		c.Next(later)
		return m.Lock(c.Clerk, o.n)()
	case "unlock":
		tell(m.Unlock(c.Clerk, o.n))
	case "park":
		c.Next(later)
		return c.Park(o.n)
	case "wake":
		tell(m.Wake(o.n))
	}
	return false
}

// someKeys are keys of which several lie in one shard, whatever the number of shards is.
func someKeys() []api.Key {
	return keys(key(-1, 1), key(-1, 7), key(0, 0), key(0, 1), key(0, 2), key(1, 0), key(1, 1), key(65535, 65535), key(most, least))
}

// draws are so many of these things at most, also one of them twice.
func draws[T any](d *proof.Dice, n int, from ...T) []T {
	var out []T
	for range d.Below(n + 1) {
		out = append(out, proof.Of(d, from...))
	}
	return out
}

// chance draws scripts over so many shards and tasks, and over these keys.
type chance struct {
	*proof.Dice
	shards, tasks int
	keys          []api.Key
}

// drawScripts are scripts of chance. Tasks have one transaction at a time that hasn't ended.
func drawScripts(d *proof.Dice, shards int) [][]op {
	from := someKeys()
	at := d.Below(len(from))
	c := chance{d, shards, 1 + d.Below(7), from[at:min(at+1+d.Below(9), len(from))]}
	scripts := make([][]op, c.tasks)
	parts := proof.Of(d, 2, 6, 12)
	for i := range scripts {
		for range d.Below(parts + 1) {
			scripts[i] = append(scripts[i], c.part()...)
		}
	}
	return scripts
}

// part is a transaction with what is asked of it behind its end, a Read, or something plain.
func (c chance) part() []op {
	switch c.Below(8) {
	case 0:
		return []op{{kind: "read", keys: draws(c.Dice, proof.Of(c.Dice, 3, 6, 60), c.keys...)}}
	case 1:
		return []op{c.plain()}
	}
	l := []op{{kind: "begin", keys: draws(c.Dice, 3, c.keys...)}}
	for range c.Below(7) {
		l = append(l, c.asked())
	}
	l = append(l, op{kind: proof.Of(c.Dice, "commit", "commit", "commit", "give up")})
	for c.Below(4) == 0 {
		l = append(l, c.asked(), op{kind: proof.Of(c.Dice, "commit", "give up")})
	}
	return l
}

// asked is something that is asked of a transaction or, sometimes, of the manager.
func (c chance) asked() op {
	o := op{kind: proof.Of(c.Dice, "get", "get", "put", "put", "put", "also", "number", "plain"), k: proof.Of(c.Dice, c.keys...)}
	switch o.kind {
	case "put":
		o.n = c.Below(1000)
	case "also":
		o.n = c.shards + c.Below(5) - 1
	case "number":
		o.n = c.Below(c.tasks)
	case "plain":
		return op{kind: proof.Of(c.Dice, "yield", "stable", "keys", "last", "versions"), k: o.k}
	}
	return o
}

// plain is something that needs no transaction.
func (c chance) plain() op {
	o := op{kind: proof.Of(c.Dice, "yield", "stable", "keys", "last", "versions", "lock", "unlock", "unlock", "park", "wake", "wake"), k: proof.Of(c.Dice, c.keys...)}
	switch o.kind {
	case "lock", "unlock":
		o.n = c.shards + c.Below(3)
	case "park", "wake":
		o.n = 1
	}
	return o
}

// agree holds what scripts came to against the model.
func agree(t *testing.T, s *stage, x api.Trace, m *model) bool {
	t.Helper()
	ok := slices.Equal(s.lines, m.lines) && proof.SameTrace(x, m.Trace()) && s.Stable() == m.stable() && slices.Equal(s.Keys(), m.keys()) && s.Versions() == len(m.list)
	for _, k := range someKeys() {
		v, there := s.last(k)
		want, wanted := m.last(k)
		ok = ok && v == want && there == wanted
	}
	for task, c := range m.clerks {
		ok = ok && (s.deals[task] != nil) == (c.deal != nil) && (c.deal == nil || s.deals[task].Number() == c.deal.number)
	}
	return ok
}

// TestScriptsAgainstModel holds all that a manager, a transaction and the runtime answer, and in which turn, against a second reckoning.
func TestScriptsAgainstModel(t *testing.T) {
	d := roll(1201)
	eachType(t, func(t *testing.T, made func(shards int) managed) {
		var all seen
		cut, ended := 0, 0
		for range 1200 {
			shards := proof.Of(d, 1, 2, 3, 7, 64)
			scripts := drawScripts(d, shards)
			picks := d.Picks(proof.Of(d, 2000, 2000, d.Below(100)))
			s, x := played(made(shards), scripts, picks)
			m := reckoned(shards, scripts, picks)
			if !agree(t, s, x, m) {
				t.Fatalf("%d shards, scripts %v, picks %v:\n%v %v\nnot\n%v %v", shards, scripts, picks, s.lines, x, m.lines, m.Trace())
			}
			switch {
			case x.Cut:
				cut++
			case !slices.Contains(x.Ended, false):
				ended++
			}
			all = all.and(m.seen)
		}
		if cut < 100 || ended < 500 || all.waited < 2000 || all.parked < 200 || all.again < 10 || all.kept < 30 {
			t.Errorf("scripts are too much alike: %d cut, %d ended, and %+v", cut, ended, all)
		}
	})
}

// TestScriptsAtEachCut: what is done up to each turn is the same as in a longer run.
func TestScriptsAtEachCut(t *testing.T) {
	d := roll(1202)
	made := managing(proof.Numbers())
	for range 40 {
		shards := proof.Of(d, 1, 3, 5)
		scripts := drawScripts(d, shards)
		picks := d.Picks(120)
		_, whole := played(made(shards), scripts, picks)
		for n := range whole.Turns + 1 {
			s, x := played(made(shards), scripts, picks[:n])
			if m := reckoned(shards, scripts, picks[:n]); !agree(t, s, x, m) {
				t.Fatalf("%d shards, scripts %v, picks %v:\n%v %v\nnot\n%v %v", shards, scripts, picks[:n], s.lines, x, m.lines, m.Trace())
			}
		}
	}
}
