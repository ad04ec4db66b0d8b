package tx

import (
	"slices"

	"custody/api"
	"custody/sched"
)

// Kinds of acts.
const (
	actRead = iota
	actWrite
	actAdd
	actGiveUp
)

// Play runs tasks of transactions over registers.
func Play(tasks [][]api.Txn, registers, shards int, picks []int) (api.Played, error) {
	if err := check(tasks, registers, shards, picks); err != nil {
		return api.Played{}, err
	}
	p := &play{manager: New[int64](shards), entries: make([][]*entry, len(tasks))}
	r := sched.New(picks)
	for task, txns := range tasks {
		r.Go(func(t *sched.Task) {
			for index, txn := range txns {
				p.do(t, txn, p.invoke(task, index))
			}
		})
	}
	trace := r.Run()
	out := api.Played{Dones: p.dones(), Quiet: !trace.Cut, Turns: trace.Turns}
	if out.Quiet {
		out.Values = p.values(registers)
	}
	return out, nil
}

func check(tasks [][]api.Txn, registers, shards int, picks []int) error {
	if registers < 1 || registers > api.MaxPairs || shards < 1 || shards > api.MaxShards {
		return api.ErrArg
	}
	if len(tasks) > api.MaxTasks || len(picks) > api.MaxPicks || slices.ContainsFunc(tasks, tooMany) {
		return api.ErrMany
	}
	for _, txns := range tasks {
		for _, txn := range txns {
			if err := checkTxn(txn, registers); err != nil {
				return err
			}
		}
	}
	return nil
}

// tooMany tells whether a task has too many transactions, or one of them too many keys or acts.
func tooMany(txns []api.Txn) bool {
	return len(txns) > api.MaxOps || slices.ContainsFunc(txns, func(txn api.Txn) bool {
		return len(txn.Keys) > api.MaxPairs || len(txn.Do) > api.MaxOps
	})
}

func checkTxn(txn api.Txn, registers int) error {
	for _, r := range txn.Keys {
		if r < 0 || r >= registers {
			return api.ErrArg
		}
	}
	for _, a := range txn.Do {
		if a.Kind < actRead || a.Kind > actGiveUp {
			return api.ErrCode
		}
	}
	return nil
}

// play is a run of transactions over registers. Only who has the baton uses it.
type play struct {
	manager *Manager[int64]
	time    int
	entries [][]*entry // of each task, of its transactions that were invoked
}

// entry is what is known of a transaction.
type entry struct {
	done   api.Done
	number func() int // of one that has begun and isn't a Read: its number as it is now
}

// tick is the next time.
func (p *play) tick() int {
	p.time++
	return p.time
}

// invoke makes the entry of a transaction that comes now.
func (p *play) invoke(task, index int) *entry {
	e := &entry{done: api.Done{Task: task, Index: index, Invoked: p.tick()}}
	p.entries[task] = append(p.entries[task], e)
	return e
}

// do does a transaction. Nothing that it read is in the entry ahead of its return, as the run may be cut.
func (p *play) do(t *sched.Task, txn api.Txn, e *entry) {
	t.Yield()
	if txn.Read {
		e.done.Number, e.done.Reads = p.manager.Read(t, keysOf(txn.Keys))
	} else {
		x := p.manager.Begin(t, keysOf(txn.Keys))
		e.number = x.Number
		reads, gaveUp := work(x, txn.Do)
		if !gaveUp {
			x.Commit()
		}
		e.done.Reads, e.done.GaveUp = reads, gaveUp
	}
	e.done.Returned = p.tick()
}

// work does acts up to one that gives up: what they read, and whether there was such a one.
func work(x *Tx[int64], acts []api.Act) (reads []int64, gaveUp bool) {
	for _, a := range acts {
		k := register(a.A)
		v, _ := x.Get(k)
		switch a.Kind {
		case actRead:
			reads = append(reads, v)
		case actWrite:
			x.Put(k, a.B)
		case actAdd:
			x.Put(k, v+a.B)
		case actGiveUp:
			x.GiveUp()
			return reads, true
		}
	}
	return reads, false
}

// dones are the entries of all tasks, each with the number that its transaction has when the run is over.
func (p *play) dones() []api.Done {
	var out []api.Done
	for _, row := range p.entries {
		for _, e := range row {
			if e.number != nil {
				e.done.Number = e.number()
			}
			out = append(out, e.done)
		}
	}
	return out
}

// values are what the registers are.
func (p *play) values(registers int) []int64 {
	out := make([]int64, registers)
	for r := range out {
		out[r], _ = p.manager.Last(register(r))
	}
	return out
}

// register is the key under which a register stands.
func register(r int) api.Key { return api.Key{Asset: r} }

func keysOf(registers []int) []api.Key {
	var out []api.Key
	for _, r := range registers {
		out = append(out, register(r))
	}
	return out
}
