package tx_test

import (
	"math"
	"slices"
	"testing"

	"custody/api"
	"custody/proof"
	"custody/store"
	"custody/tx"
)

func readAct(a int) api.Act { return api.Act{A: a} }

func write(a int, b int64) api.Act { return api.Act{Kind: 1, A: a, B: b} }

func add(a int, b int64) api.Act { return api.Act{Kind: 2, A: a, B: b} }

func giveUp() api.Act { return api.Act{Kind: 3} }

func acts(l ...api.Act) []api.Act { return l }

// lock is a transaction that locks registers.
func lock(l []int, do ...api.Act) api.Txn { return api.Txn{Keys: l, Do: do} }

// readOf is a Read.
func readOf(l ...int) api.Txn { return api.Txn{Keys: l, Read: true} }

func txns(l ...api.Txn) []api.Txn { return l }

func tasksOf(l ...[]api.Txn) [][]api.Txn { return l }

func numbers(l ...int64) []int64 { return l }

// zeros are so many picks of 0: each task does all that it can, by rising numbers.
func zeros(n int) []int { return make([]int, n) }

func sameDone(a, b api.Done) bool {
	return a.Task == b.Task && a.Index == b.Index && a.Number == b.Number && a.Invoked == b.Invoked && a.Returned == b.Returned && slices.Equal(a.Reads, b.Reads) && a.GaveUp == b.GaveUp
}

func samePlayed(a, b api.Played) bool {
	return slices.EqualFunc(a.Dones, b.Dones, sameDone) && slices.Equal(a.Values, b.Values) && a.Quiet == b.Quiet && a.Turns == b.Turns
}

// modelEntry is what the model knows of a transaction.
type modelEntry struct {
	done api.Done
	deal *deal
}

// modelPlay is a play over the model.
type modelPlay struct {
	*model
	time    int
	entries [][]*modelEntry
}

// reckonPlay is what a play comes to by the model.
func reckonPlay(tasks [][]api.Txn, registers, shards int, picks []int) (api.Played, *model) {
	p := &modelPlay{model: newModel(shards, len(tasks)), entries: make([][]*modelEntry, len(tasks))}
	for n, l := range tasks {
		c := p.clerks[n]
		for index, txn := range l {
			c.Todo = append(c.Todo, p.steps(c, index, txn)...)
		}
	}
	p.play(picks)
	out := api.Played{Quiet: !p.Cut, Turns: p.Turns}
	for _, row := range p.entries {
		for _, e := range row {
			if e.deal != nil {
				e.done.Number = e.deal.number
			}
			out.Dones = append(out.Dones, e.done)
		}
	}
	for r := range registers {
		if out.Quiet {
			v, _ := p.last(key(0, r))
			out.Values = append(out.Values, int64(v))
		}
	}
	return out, p.model
}

// steps are those of a transaction.
func (p *modelPlay) steps(c *clerk, index int, txn api.Txn) []proof.Step {
	e := &modelEntry{}
	invoked := func() bool {
		p.time++
		e.done = api.Done{Task: c.Number, Index: index, Invoked: p.time}
		p.entries[c.Number] = append(p.entries[c.Number], e)
		return true
	}
	returned := func() bool {
		p.time++
		e.done.Returned = p.time
		return false
	}
	if txn.Read {
		return []proof.Step{invoked, func() bool {
			p.read(c, registerKeys(txn.Keys), func(number int, values []int) {
				e.done.Number = number
				for _, v := range values {
					e.done.Reads = append(e.done.Reads, int64(v))
				}
			})
			return false
		}, returned}
	}
	return []proof.Step{invoked, func() bool {
		p.begin(c, registerKeys(txn.Keys))
		return false
	}, func() bool {
		e.deal = c.deal
		reads, gaveUp := p.acts(c, txn.Do)
		if gaveUp {
			e.done.Reads, e.done.GaveUp = reads, true
			return false
		}
		p.commit(c, func(int) { e.done.Reads = reads })
		return false
	}, returned}
}

// acts does acts up to one that gives up.
func (m *model) acts(c *clerk, l []api.Act) (reads []int64, gaveUp bool) {
	for _, a := range l {
		v, _ := m.get(c.deal, key(0, a.A))
		switch a.Kind {
		case 0:
			reads = append(reads, int64(v))
		case 1:
			m.put(c.deal, key(0, a.A), int(a.B))
		case 2:
			m.put(c.deal, key(0, a.A), int(uint(v)+uint(a.B)))
		case 3:
			m.giveUp(c)
			return reads, true
		}
	}
	return reads, false
}

func registerKeys(l []int) []api.Key {
	var out []api.Key
	for _, r := range l {
		out = append(out, key(0, r))
	}
	return out
}

// apart are two registers, from 0 on, whose shards of so many are unlike.
func apart(shards int) (int, int) {
	for r := 1; ; r++ {
		if store.Shard(key(0, r), shards) != store.Shard(key(0, 0), shards) {
			return 0, r
		}
	}
}

// toldPlay is a play by hand.
type toldPlay struct {
	name              string
	tasks             [][]api.Txn
	registers, shards int
	picks             []int
	want              api.Played
}

// examples are the chapter's, and the first one cut at each turn.
func examples() []toldPlay {
	one := tasksOf(txns(lock(ints(0), add(0, 5), readAct(0))))
	two := tasksOf(txns(lock(ints(0), write(0, 7), readAct(0), readAct(1), giveUp()), readOf(0)))
	invoked := api.Played{Dones: []api.Done{{Invoked: 1}}}
	numbered := api.Played{Dones: []api.Done{{Number: 1, Invoked: 1}}}
	cut := func(x api.Played, turns int) api.Played {
		x.Turns = turns
		return x
	}
	whole := api.Played{Dones: []api.Done{{Number: 1, Invoked: 1, Returned: 2, Reads: numbers(5)}}, Values: numbers(5, 0), Quiet: true, Turns: 5}
	gaveUp := api.Done{Invoked: 1, Returned: 2, Reads: numbers(7, 0), GaveUp: true}
	return []toldPlay{
		{"the chapter's first", one, 2, 1, zeros(6), whole},
		{"the same, cut", one, 2, 1, zeros(3), cut(numbered, 3)},
		{"one given up, and a Read", two, 2, 1, zeros(6), api.Played{
			Dones: []api.Done{gaveUp, {Index: 1, Invoked: 3, Returned: 4, Reads: numbers(0)}}, Values: numbers(0, 0), Quiet: true, Turns: 5}},
		{"cut at each turn", one, 2, 1, nil, api.Played{}},
		{"cut at each turn", one, 2, 1, zeros(1), cut(invoked, 1)},
		{"cut at each turn", one, 2, 1, zeros(2), cut(invoked, 2)},
		{"cut at each turn", one, 2, 1, zeros(4), cut(numbered, 4)},
		{"not cut any more", one, 2, 1, zeros(5), whole},
		{"given up, cut at each turn", two, 2, 1, zeros(1), cut(invoked, 1)},
		{"given up, cut at each turn", two, 2, 1, zeros(2), cut(invoked, 2)},
		{"given up, cut at each turn", two, 2, 1, zeros(3), api.Played{Dones: []api.Done{gaveUp, {Index: 1, Invoked: 3}}, Turns: 3}},
		{"given up, cut at each turn", two, 2, 1, zeros(4), api.Played{Dones: []api.Done{gaveUp, {Index: 1, Invoked: 3}}, Turns: 4}},
	}
}

// quiet is one task that does all of its transactions, and what it comes to.
func quiet(name string, registers, shards, turns int, values []int64, l []api.Txn, dones ...api.Done) toldPlay {
	return toldPlay{name, tasksOf(l), registers, shards, zeros(100), api.Played{Dones: dones, Values: values, Quiet: true, Turns: turns}}
}

// alone are plays of one task.
func alone() []toldPlay {
	a, b := apart(64)
	once := func(number int, reads ...int64) api.Done {
		return api.Done{Number: number, Invoked: 1, Returned: 2, Reads: reads}
	}
	then := func(index, number int, reads ...int64) api.Done {
		return api.Done{Index: index, Number: number, Invoked: 2*index + 1, Returned: 2*index + 2, Reads: reads}
	}
	return []toldPlay{
		quiet("no transactions", 3, 1, 1, numbers(0, 0, 0), nil),
		quiet("a transaction of nothing", 1, 1, 3, numbers(0), txns(lock(nil)), once(1)),
		quiet("acts without locks", 2, 1, 3, numbers(0, 0), txns(lock(nil, write(0, 5), readAct(0), add(1, 5), readAct(1))), once(1, 0, 0)),
		quiet("a lock without acts", 1, 1, 5, numbers(0), txns(lock(ints(0))), once(1)),
		quiet("a key twice", 1, 1, 5, numbers(4), txns(lock(ints(0, 0, 0), add(0, 4))), once(1)),
		quiet("two keys of one shard", 2, 1, 5, numbers(4, 3), txns(lock(ints(1, 0), add(0, 4), add(1, 3))), once(1)),
		quiet("two shards", 64, 64, 7, valuesOf(64, a, 4, b, 3), txns(lock(ints(b, a), add(a, 4), add(b, 3))), once(1)),
		quiet("a shard that isn't held", 64, 64, 5, valuesOf(64, a, 4), txns(lock(ints(a), write(b, 9), readAct(b), add(b, 9), readAct(b), add(a, 4), readAct(a))), once(1, 0, 0, 4)),
		quiet("what isn't held reads as 0, though it has a value", 64, 64, 9, valuesOf(64, a, 4),
			txns(lock(ints(a), write(a, 4)), lock(ints(b), readAct(a), add(a, 1))), once(1), then(1, 2, 0)),
		quiet("a register that no key names, of a shard that is held", 2, 1, 5, numbers(0, 6), txns(lock(ints(0), add(1, 6), readAct(1))), once(1, 6)),
		quiet("registers beyond all", 1, 1, 9, numbers(0), txns(lock(ints(0), write(9000, 5), write(-1, 6), write(least, 7), readAct(9000), readAct(-1), readAct(least), readAct(most)),
			lock(ints(0), add(9000, 1), readAct(9000))), once(1, 5, 6, 7, 0), then(1, 2, 6)),
		quiet("sums wrap round", 1, 1, 9, numbers(math.MaxInt64), txns(lock(ints(0), write(0, math.MaxInt64), add(0, 1), readAct(0)), lock(ints(0), add(0, -1), readAct(0))),
			once(1, math.MinInt64), then(1, 2, math.MaxInt64)),
		quiet("each kind, in order", 1, 1, 5, numbers(6), txns(lock(ints(0), readAct(0), write(0, 3), readAct(0), add(0, 4), readAct(0), write(0, 6))), once(1, 0, 3, 7)),
		quiet("given up first", 1, 1, 7, numbers(2), txns(lock(ints(0), giveUp(), add(0, 9), readAct(0)), lock(ints(0), add(0, 2), readAct(0))),
			api.Done{Invoked: 1, Returned: 2, GaveUp: true}, then(1, 1, 2)),
		quiet("given up twice", 1, 1, 3, numbers(0), txns(lock(ints(0), readAct(0), giveUp(), giveUp())), api.Done{Invoked: 1, Returned: 2, Reads: numbers(0), GaveUp: true}),
		quiet("given up without locks", 1, 1, 2, numbers(0), txns(lock(nil, giveUp())), api.Done{Invoked: 1, Returned: 2, GaveUp: true}),
		quiet("a Read of nothing", 1, 1, 2, numbers(0), txns(readOf()), once(0)),
		quiet("a Read does no acts", 2, 1, 4, numbers(0, 0), txns(api.Txn{Keys: ints(1, 0), Read: true, Do: acts(write(0, 5), readAct(0), giveUp())}), once(0, 0, 0)),
		quiet("Reads behind writes", 2, 1, 18, numbers(5, 8), txns(lock(ints(0), write(0, 5)), readOf(1, 0, 0), lock(ints(1), write(1, 8)), lock(nil), readOf(1, 0)),
			once(1), then(1, 1, 0, 5, 5), then(2, 2), then(3, 3), then(4, 3, 8, 5)),
	}
}

// valuesOf are so many registers, of which some (pairs of place and value) are not 0.
func valuesOf(n int, pairs ...int) []int64 {
	out := make([]int64, n)
	for i := 0; i < len(pairs); i += 2 {
		out[pairs[i]] = int64(pairs[i+1])
	}
	return out
}

// beside are plays of no tasks, and of several.
func beside() []toldPlay {
	a, b := apart(64)
	both := tasksOf(txns(lock(ints(a), write(a, 4), readAct(b))), txns(lock(ints(b), write(b, 3), readAct(b))))
	twice := tasksOf(txns(lock(ints(0), add(0, 1), readAct(0))), txns(lock(ints(0), add(0, 1), readAct(0))))
	reading := tasksOf(txns(lock(ints(0, 1), write(0, 4), write(1, 4))), txns(readOf(0, 1, 0)))
	return []toldPlay{
		{"no tasks", nil, 2, 1, nil, api.Played{Values: numbers(0, 0), Quiet: true}},
		{"no tasks, and picks", nil, 1, 64, zeros(5), api.Played{Values: numbers(0), Quiet: true}},
		{"tasks without transactions", tasksOf(nil, txns(), nil), 1, 1, ints(2, 0, 0), api.Played{Values: numbers(0), Quiet: true, Turns: 3}},
		{"tasks without transactions, cut", tasksOf(nil, txns(), nil), 1, 1, ints(2, 0), api.Played{Turns: 2}},
		{"a task, no picks", twice[:1], 1, 1, nil, api.Played{}},
		{"who waits for a mutex has no number", twice, 1, 1, ints(1, 1, 0, 0, 0),
			api.Played{Dones: []api.Done{{Invoked: 2}, {Task: 1, Number: 1, Invoked: 1}}, Turns: 5}},
		{"one behind the other", twice, 1, 1, ints(1, 1, 0, 0, 0, 0, 0, 0, 0, 0),
			api.Played{Dones: []api.Done{{Number: 2, Invoked: 2, Returned: 4, Reads: numbers(2)}, {Task: 1, Number: 1, Invoked: 1, Returned: 3, Reads: numbers(1)}}, Values: numbers(2), Quiet: true, Turns: 10}},
		// Both begin and are numbered, the second one first; then the first one is done, and is parked.
		{"who is parked has its number, and hasn't returned", both, 64, 64, ints(0, 1, 0, 1, 1, 0, 0, 0),
			api.Played{Dones: []api.Done{{Number: 2, Invoked: 1}, {Task: 1, Number: 1, Invoked: 2}}, Turns: 8}},
		{"it returns when the lesser number is done", both, 64, 64, ints(0, 1, 0, 1, 1, 0, 0, 0, 0, 0, 0),
			api.Played{Dones: []api.Done{{Number: 2, Invoked: 1, Returned: 4, Reads: numbers(0)}, {Task: 1, Number: 1, Invoked: 2, Returned: 3, Reads: numbers(3)}},
				Values: valuesOf(64, a, 4, b, 3), Quiet: true, Turns: 11}},
		// The Read begins when the number 1 is there, and isn't done.
		{"a Read beside a Commit", reading, 2, 1, ints(0, 0, 0, 1, 1, 0, 0, 0, 0, 0),
			api.Played{Dones: []api.Done{{Number: 1, Invoked: 1, Returned: 3}, {Task: 1, Invoked: 2, Returned: 4, Reads: numbers(0, 0, 0)}}, Values: numbers(4, 4), Quiet: true, Turns: 10}},
		// The Read begins when the number 1 is done, and is cut.
		{"a Read that hasn't returned has no number", reading, 2, 1, ints(0, 0, 0, 0, 0, 0, 0, 0),
			api.Played{Dones: []api.Done{{Number: 1, Invoked: 1, Returned: 2}, {Task: 1, Invoked: 3}}, Turns: 8}},
	}
}

func TestToldPlays(t *testing.T) {
	for _, x := range slices.Concat(examples(), alone(), beside()) {
		got, err := tx.Play(x.tasks, x.registers, x.shards, x.picks)
		if err != nil || !samePlayed(got, x.want) {
			t.Errorf("%s: %+v %v, not %+v", x.name, got, err, x.want)
		}
		if again, _ := reckonPlay(x.tasks, x.registers, x.shards, x.picks); !samePlayed(again, x.want) {
			t.Errorf("%s: the model is wrong: %+v, not %+v", x.name, again, x.want)
		}
	}
}

// drawPlay are tasks of chance over registers. Acts are of registers that are locked, of others, and of such as are beyond all.
func drawPlay(d *proof.Dice, registers int) [][]api.Txn {
	tasks := make([][]api.Txn, d.Below(7))
	all := make([]int, registers)
	for r := range all {
		all[r] = r
	}
	parts := proof.Of(d, 1, 3, 8)
	for i := range tasks {
		for range d.Below(parts + 1) {
			tasks[i] = append(tasks[i], drawTxn(d, all))
		}
	}
	return tasks
}

func drawTxn(d *proof.Dice, registers []int) api.Txn {
	x := api.Txn{Keys: draws(d, 4, registers...), Read: d.Below(4) == 0}
	if x.Read {
		x.Keys = draws(d, proof.Of(d, 4, 30), registers...)
	}
	for range d.Below(6) {
		a := api.Act{Kind: d.Below(3), A: proof.Of(d, registers...), B: proof.Of(d, 0, 1, -1, int64(d.Below(100)), math.MaxInt64, math.MinInt64)}
		if len(x.Keys) > 0 && d.Below(4) > 0 {
			a.A = proof.Of(d, x.Keys...)
		}
		if d.Below(10) == 0 {
			a.A = proof.Of(d, -1, 1000, most, least)
		}
		x.Do = append(x.Do, a)
	}
	if d.Below(5) == 0 {
		x.Do = slices.Insert(x.Do, d.Below(len(x.Do)+1), giveUp())
	}
	return x
}

// bound is how many picks are enough, as the chapter says.
func bound(tasks [][]api.Txn) int {
	count := 0
	for _, l := range tasks {
		count += len(l)
	}
	n := len(tasks)
	for _, l := range tasks {
		for _, x := range l {
			n += 2 + 2*len(x.Keys) + count
			if x.Read {
				n -= len(x.Keys)
			}
		}
	}
	return n
}

func TestPlayAgainstModel(t *testing.T) {
	d := roll(1210)
	var all seen
	cut, ended := 0, 0
	for range 6000 {
		registers, shards := proof.Of(d, 1, 2, 5, 64), proof.Of(d, 1, 2, 4, 64)
		tasks := drawPlay(d, registers)
		picks := d.Picks(proof.Of(d, bound(tasks), d.Below(bound(tasks)/2+2)))
		want, m := reckonPlay(tasks, registers, shards, picks)
		got, err := tx.Play(tasks, registers, shards, picks)
		if err != nil || !samePlayed(got, want) {
			t.Fatalf("%d registers, %d shards, tasks %v, picks %v:\n%+v %v\nnot\n%+v", registers, shards, tasks, picks, got, err, want)
		}
		if got.Quiet {
			ended++
		} else {
			cut++
		}
		all = all.and(m.seen)
	}
	if cut < 1000 || ended < 1000 || all.waited < 3000 || all.parked < 1000 || all.again < 50 || all.kept < 50 {
		t.Errorf("the plays are too much alike: %d cut, %d quiet, and %+v", cut, ended, all)
	}
}

// TestPlayAtEachCut: what is told of a transaction at each turn.
func TestPlayAtEachCut(t *testing.T) {
	d := roll(1211)
	for range 60 {
		registers, shards := proof.Of(d, 1, 3, 8), proof.Of(d, 1, 2, 64)
		tasks := drawPlay(d, registers)
		picks := d.Picks(bound(tasks))
		whole, err := tx.Play(tasks, registers, shards, picks)
		if err != nil || !whole.Quiet {
			t.Fatalf("%v: %+v", err, whole)
		}
		for n := range whole.Turns + 1 {
			want, _ := reckonPlay(tasks, registers, shards, picks[:n])
			got, err := tx.Play(tasks, registers, shards, picks[:n])
			if err != nil || !samePlayed(got, want) || got.Turns != n || got.Quiet != (n == whole.Turns) {
				t.Fatalf("%d registers, %d shards, tasks %v, picks %v:\n%+v %v\nnot\n%+v", registers, shards, tasks, picks[:n], got, err, want)
			}
		}
	}
}
