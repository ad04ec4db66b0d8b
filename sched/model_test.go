package sched_test

import (
	"math"
	"math/big"
	"slices"
	"testing"

	"custody/api"
	"custody/proof"
	"custody/sched"
)

type dice struct{ proof.Dice }

func roll(seed uint64) *dice { return &dice{proof.Dice(seed)} }

func pick[T any](d *dice, l ...T) T { return proof.Of(&d.Dice, l...) }

// Steps that functions do beside those of Play, and note.
const (
	stNow = 100 + iota
	stNumber
	stNote // A, under the step number B
)

// player is how a task of the model stands.
type player struct {
	steps  []api.Step
	at     int  // the next step
	state  byte // r: runnable, w: waits, p: parked, e: ended
	thing  int
	since  int         // the turn in which it began to wait
	locked map[int]int // the turn in which it got each mutex that it holds, and 1 more
}

// model is the second reckoning of a run: no goroutines, but tasks that remember at which step they stand.
type model struct {
	players  []*player
	counters map[int]int
	turn     int
	events   []api.Event
	cut      bool
}

// reckon is the trace of a run by the model.
func reckon(tasks [][]api.Step, picks []int) api.Trace {
	m := &model{counters: map[int]int{}}
	for _, steps := range tasks {
		m.players = append(m.players, &player{steps: steps, state: 'r', locked: map[int]int{}})
	}
	for {
		var able []int
		for i, p := range m.players {
			if p.state == 'r' {
				able = append(able, i)
			}
		}
		if len(able) == 0 {
			return m.trace()
		}
		if m.turn == len(picks) {
			m.cut = true
			return m.trace()
		}
		var place big.Int
		place.Mod(big.NewInt(int64(picks[m.turn])), big.NewInt(int64(len(able))))
		m.turn++
		m.play(able[place.Int64()])
	}
}

func (m *model) trace() api.Trace {
	x := api.Trace{Events: m.events, Turns: m.turn, Cut: m.cut}
	for _, p := range m.players {
		waiting, parked := -1, -1
		switch p.state {
		case 'w':
			waiting = p.thing
		case 'p':
			parked = p.thing
		}
		x.Ended = append(x.Ended, p.state == 'e')
		x.Waiting = append(x.Waiting, waiting)
		x.Parked = append(x.Parked, parked)
	}
	return x
}

// play is one turn of a player.
func (m *model) play(i int) {
	p := m.players[i]
	if p.at > 0 && p.steps[p.at-1].Op == api.StLock {
		m.note(i, p.at-1, p.steps[p.at-1].A)
	}
	for p.at < len(p.steps) {
		s := p.steps[p.at]
		p.at++
		if m.step(i, p.at-1, s) {
			return
		}
	}
	p.state = 'e'
}

func (m *model) note(i, step, value int) {
	m.events = append(m.events, api.Event{Task: i, Step: step, Value: value})
}

// step does a step; true if the turn ends with it.
func (m *model) step(i, n int, s api.Step) bool {
	p := m.players[i]
	switch s.Op {
	case api.StYield:
		return true
	case api.StLock:
		if m.held(s.A) {
			p.state, p.thing, p.since = 'w', s.A, m.turn
		} else {
			p.locked[s.A] = m.turn + 1
		}
		return true
	case api.StUnlock:
		m.note(i, n, m.unlock(p, s.A))
	case api.StAdd:
		m.counters[s.A] = int(uint(m.counters[s.A]) + uint(s.B))
	case api.StRead:
		m.note(i, n, m.counters[s.A])
	case api.StPark:
		p.state, p.thing = 'p', s.A
		return true
	case api.StWake:
		m.note(i, n, m.wake(s.A))
	case stNow:
		m.note(i, n, m.turn)
	case stNumber:
		m.note(i, n, i)
	case stNote:
		m.note(i, s.B, s.A)
	}
	return false
}

func (m *model) held(name int) bool {
	return slices.ContainsFunc(m.players, func(p *player) bool { return p.locked[name] > 0 })
}

func (m *model) unlock(p *player, name int) int {
	if p.locked[name] == 0 {
		return 0
	}
	delete(p.locked, name)
	var longest *player
	for _, q := range m.players {
		if q.state == 'w' && q.thing == name && (longest == nil || q.since < longest.since) {
			longest = q
		}
	}
	if longest != nil {
		longest.state = 'r'
		longest.locked[name] = m.turn + 1
	}
	return 1
}

func (m *model) wake(name int) int {
	n := 0
	for _, q := range m.players {
		if q.state == 'p' && q.thing == name {
			q.state = 'r'
			n++
		}
	}
	return n
}

// act does a step as a function of a task does it, and notes what Play notes.
func act(t *sched.Task, n int, s api.Step, counters map[int]int) {
	switch s.Op {
	case api.StYield:
		t.Yield()
	case api.StLock:
		t.Lock(s.A)
		t.Note(n, s.A)
	case api.StUnlock:
		t.Note(n, map[bool]int{true: 1}[t.Unlock(s.A)])
	case api.StAdd:
		counters[s.A] += s.B
	case api.StRead:
		t.Note(n, counters[s.A])
	case api.StPark:
		t.Park(s.A)
	case api.StWake:
		t.Note(n, t.Wake(s.A))
	case stNow:
		t.Note(n, t.Now())
	case stNumber:
		t.Note(n, t.Number())
	case stNote:
		t.Note(s.B, s.A)
	}
}

// runtimeOf is a runtime whose tasks do these steps.
func runtimeOf(tasks [][]api.Step, picks []int) *sched.Runtime {
	r := sched.New(picks)
	counters := map[int]int{}
	for _, steps := range tasks {
		r.Go(func(t *sched.Task) {
			for n, s := range steps {
				act(t, n, s, counters)
			}
		})
	}
	return r
}

// draw is a play of chance: so many tasks at most, so many steps of each at most; things are some of these names.
func draw(d *dice, tasks, steps int, names []int, ops ...int) [][]api.Step {
	out := make([][]api.Step, d.Below(tasks+1))
	for i := range out {
		for range d.Below(steps + 1) {
			out[i] = append(out[i], api.Step{Op: pick(d, ops...), A: pick(d, names...), B: pick(d, 0, 1, -1, 5, math.MaxInt, math.MinInt)})
		}
	}
	return out
}

var playOps = []int{
	api.StYield, api.StLock, api.StLock, api.StLock, api.StUnlock, api.StUnlock, api.StUnlock, api.StAdd, api.StRead, api.StPark, api.StWake, api.StWake,
}

// drawPlay is a play of chance that Play takes.
func drawPlay(d *dice) [][]api.Step {
	return draw(d, 6, 8, pick(d, []int{0}, []int{0, 1}, []int{3, 7, math.MaxInt}), playOps...)
}

func size(tasks [][]api.Step) int {
	n := len(tasks)
	for _, steps := range tasks {
		n += len(steps)
	}
	return n
}

func TestPlayAgainstModel(t *testing.T) {
	d := roll(801)
	waiting, parked, cut := 0, 0, 0
	for range 6000 {
		tasks := drawPlay(d)
		picks := d.Picks(d.Below(size(tasks) + 3))
		want := reckon(tasks, picks)
		got, err := sched.Play(tasks, picks)
		if err != nil || !proof.SameTrace(got, want) {
			t.Fatalf("tasks %v, picks %v: %v %v, not %v", tasks, picks, got, err, want)
		}
		waiting += btoi(slices.ContainsFunc(got.Waiting, notNone))
		parked += btoi(slices.ContainsFunc(got.Parked, notNone))
		cut += btoi(got.Cut)
	}
	if waiting < 500 || parked < 500 || cut < 500 {
		t.Errorf("the plays are too much alike: %d with tasks that wait, %d with tasks that are parked, %d cut", waiting, parked, cut)
	}
}

func btoi(b bool) int {
	if b {
		return 1
	}
	return 0
}

func notNone(n int) bool { return n != -1 }

func TestRunAgainstModel(t *testing.T) {
	d := roll(802)
	ops := append([]int{stNow, stNow, stNumber, stNote}, playOps...)
	for range 3000 {
		tasks := draw(d, 6, 10, pick(d, []int{0}, []int{0, -1}, []int{-5, math.MinInt, math.MaxInt}), ops...)
		picks := d.Picks(d.Below(size(tasks) + 3))
		want := reckon(tasks, picks)
		if got := runtimeOf(tasks, picks).Run(); !proof.SameTrace(got, want) {
			t.Fatalf("tasks %v, picks %v: %v, not %v", tasks, picks, got, want)
		}
	}
}

// TestManyTasks: a runtime has no bound of tasks, and picks are places among all that are runnable.
func TestManyTasks(t *testing.T) {
	d := roll(803)
	tasks := make([][]api.Step, 700)
	for i := range tasks {
		tasks[i] = []api.Step{{Op: pick(d, api.StPark, api.StLock), A: 1}, {Op: stNumber}, {Op: pick(d, api.StWake, api.StUnlock), A: 1}, {}, {Op: api.StWake, A: 1}}
	}
	picks := d.Picks(size(tasks))
	want := reckon(tasks, picks)
	if got := runtimeOf(tasks, picks).Run(); !proof.SameTrace(got, want) {
		t.Error("a run of many tasks is another one than the model's")
	}
}
