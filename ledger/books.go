package ledger

import (
	"cmp"
	"maps"
	"slices"

	"custody/api"
	"custody/balance"
	"custody/dvp"
)

// ofRecords stands in the place of an account in the keys of records.
const ofRecords = -1

// books are what a ledger holds: the view over which operations are done. The queue follows the records that are put.
type books struct {
	positions map[api.Key]api.Position // none whose total is 0
	records   map[int]api.Record       // none without a status
	queue     []int                    // never changed in its place: a draft keeps the one that was
}

// opened are the books of a state that is right.
func opened(s api.State) *books {
	b := &books{positions: map[api.Key]api.Position{}, records: map[int]api.Record{}, queue: slices.Clone(s.Queue)}
	for _, x := range s.Balances {
		b.positions[x.Key] = copiedPosition(x.Position)
	}
	for _, x := range s.Instructions {
		b.records[x.Id] = copiedRecord(x.Record)
	}
	return b
}

// Get is what stands under a key.
func (b *books) Get(k api.Key) api.Cell {
	if k.Account == ofRecords {
		return api.Cell{Record: b.records[k.Asset]}
	}
	return api.Cell{Position: b.positions[k]}
}

// Put lays something else there.
func (b *books) Put(k api.Key, c api.Cell) {
	if k.Account == ofRecords {
		b.putRecord(k.Asset, c.Record)
	} else {
		b.putPosition(k, c.Position)
	}
}

// putPosition lays a position down; of nothing that is held no trace is kept.
func (b *books) putPosition(k api.Key, p api.Position) {
	if balance.Total(p) == 0 {
		delete(b.positions, k)
		return
	}
	b.positions[k] = p
}

// putRecord lays a record down; what becomes pending enters the queue, behind all others, and what is so no longer leaves it.
func (b *books) putRecord(id int, r api.Record) {
	waited, waits := b.records[id].Status == api.Pending, r.Status == api.Pending
	switch {
	case waits && !waited:
		b.queue = append(slices.Clone(b.queue), id)
	case waited && !waits:
		b.queue = slices.DeleteFunc(slices.Clone(b.queue), func(x int) bool { return x == id })
	}
	if r.Status == api.None {
		delete(b.records, id)
		return
	}
	b.records[id] = r
}

// held are copies of the positions of pairs, in their order.
func (b *books) held(pairs []api.Key) []api.Position {
	var l []api.Position
	for _, k := range pairs {
		l = append(l, copiedPosition(b.positions[k]))
	}
	return l
}

// covers tells whether what is held covers the legs of an instruction.
func (b *books) covers(id int) bool { return dvp.Covered(b, b.records[id].Legs) == nil }

// firstReady is the first of the queue that is covered, if one is.
func (b *books) firstReady() (int, bool) {
	for _, id := range b.queue {
		if b.covers(id) {
			return id, true
		}
	}
	return 0, false
}

// state is all that the books hold, in memory of its own.
func (b *books) state() api.State {
	s := api.State{Queue: slices.Clone(b.queue)}
	for _, k := range slices.SortedFunc(maps.Keys(b.positions), compare) {
		s.Balances = append(s.Balances, api.Balance{Key: k, Position: copiedPosition(b.positions[k])})
	}
	for _, id := range slices.Sorted(maps.Keys(b.records)) {
		s.Instructions = append(s.Instructions, api.Instruction{Id: id, Record: copiedRecord(b.records[id])})
	}
	return s
}

// compare is below 0, if the first key stands ahead of the other, and 0, if they are the same.
func compare(a, b api.Key) int {
	return cmp.Or(cmp.Compare(a.Account, b.Account), cmp.Compare(a.Asset, b.Asset))
}

func copiedPosition(p api.Position) api.Position {
	p.Marks = slices.Clone(p.Marks)
	return p
}

func copiedRecord(r api.Record) api.Record {
	r.Legs = slices.Clone(r.Legs)
	return r
}
