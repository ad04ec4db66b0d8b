package proof

import (
	"maps"
	"slices"

	"custody/api"
)

// Book is a ledger once more, as the document's words say it: what the layers that move something are held against. It reckons with numbers without a sign: in these no two amounts together leave their bounds.
type Book struct {
	Held    map[api.Key]map[int]uint64 // of each key, what is free under 0, and what is set aside under its name; none of 0
	Records map[int]api.Record
	Queue   []int
}

// NewBook is one in which nothing stands.
func NewBook() *Book {
	return &Book{Held: map[api.Key]map[int]uint64{}, Records: map[int]api.Record{}}
}

// Copy is a book of its own with the same in it.
func (b *Book) Copy() *Book {
	c := NewBook()
	for k, lots := range b.Held {
		c.Held[k] = maps.Clone(lots)
	}
	for id, r := range b.Records {
		c.Records[id] = api.Record{Status: r.Status, Legs: slices.Clone(r.Legs)}
	}
	c.Queue = slices.Clone(b.Queue)
	return c
}

// set lays down how much there is under a name; of nothing there is no trace.
func (b *Book) set(k api.Key, name int, qty uint64) {
	if b.Held[k] == nil {
		b.Held[k] = map[int]uint64{}
	}
	b.Held[k][name] = qty
	if qty == 0 {
		delete(b.Held[k], name)
	}
	if len(b.Held[k]) == 0 {
		delete(b.Held, k)
	}
}

// Lay lays a position under a key.
func (b *Book) Lay(k api.Key, p api.Position) {
	delete(b.Held, k)
	b.set(k, 0, uint64(p.Avail))
	for _, m := range p.Marks {
		b.set(k, m.Name, uint64(m.Qty))
	}
}

// Position is what is held under a key.
func (b *Book) Position(k api.Key) api.Position {
	p := api.Position{Avail: int64(b.Held[k][0])}
	for _, name := range slices.Sorted(maps.Keys(b.Held[k])) {
		if name != 0 {
			p.Marks = append(p.Marks, api.Mark{Name: name, Qty: int64(b.Held[k][name])})
		}
	}
	return p
}

// Total is all that is held under a key.
func (b *Book) Total(k api.Key) uint64 {
	var total uint64
	for _, qty := range b.Held[k] {
		total += qty
	}
	return total
}

// take takes so much from one lot, if it has that.
func (b *Book) take(k api.Key, name int, qty uint64) bool {
	if b.Held[k][name] < qty {
		return false
	}
	b.set(k, name, b.Held[k][name]-qty)
	return true
}

// give puts so much to what is free, if all that is held is an amount then.
func (b *Book) give(k api.Key, qty uint64) bool {
	if b.Total(k)+qty > api.MaxAmount {
		return false
	}
	b.set(k, 0, b.Held[k][0]+qty)
	return true
}

// takeLeg takes what a leg moves: first from its mark, then from what is free.
func (b *Book) takeLeg(l api.Leg) bool {
	k, rest := api.Key{Account: l.From, Asset: l.Asset}, uint64(l.Qty)
	if l.Name != 0 {
		marked := min(rest, b.Held[k][l.Name])
		b.take(k, l.Name, marked)
		rest -= marked
	}
	return b.take(k, 0, rest)
}

// Move moves legs that are right by themselves, all of them; or says why they are not covered.
func (b *Book) Move(legs []api.Leg) api.Errno {
	c := b.Copy()
	for _, l := range legs {
		if !c.takeLeg(l) {
			return api.ErrCover
		}
	}
	for _, l := range legs {
		if !c.give(api.Key{Account: l.To, Asset: l.Asset}, uint64(l.Qty)) {
			return api.ErrOver
		}
	}
	*b = *c
	return api.OK
}

// Do does an operation in a ledger of this configuration, whose queue has room or not.
func (b *Book) Do(c api.Config, o api.Op, room bool) api.Answer {
	if no := Judge(c, o); no != api.OK {
		return api.Answer{Err: no}
	}
	switch o.Code {
	case api.OpSubmit:
		return b.submit(o, room)
	case api.OpCancel, api.OpStatus:
		return b.ask(o)
	case api.OpSnapshot:
		var a api.Answer
		for _, k := range o.Pairs {
			a.Positions = append(a.Positions, b.Position(k))
		}
		return a
	}
	return api.Answer{Err: b.turn(o)}
}

// turn does what turns one position alone.
func (b *Book) turn(o api.Op) api.Errno {
	k, qty := api.Key{Account: o.Account, Asset: o.Asset}, uint64(o.Qty)
	free, marked := b.Held[k][0], b.Held[k][o.Name]
	marks := len(b.Position(k).Marks)
	switch {
	case o.Code == api.OpDeposit && !b.give(k, qty):
		return api.ErrOver
	case o.Code == api.OpWithdraw && !b.take(k, 0, qty):
		return api.ErrCover
	case o.Code == api.OpMark && free < qty:
		return api.ErrCover
	case o.Code == api.OpMark && marked == 0 && marks == 8:
		return api.ErrMany
	case o.Code == api.OpMark:
		b.set(k, 0, free-qty)
		b.set(k, o.Name, marked+qty)
	case o.Code == api.OpUnmark && marked == 0:
		return api.ErrMark
	case o.Code == api.OpUnmark && marked < qty:
		return api.ErrCover
	case o.Code == api.OpUnmark:
		b.set(k, o.Name, marked-qty)
		b.set(k, 0, free+qty)
	}
	return api.OK
}

func (b *Book) submit(o api.Op, room bool) api.Answer {
	if b.Records[o.Id].Status != api.None {
		return api.Answer{Err: api.ErrTwice}
	}
	status := api.Pending
	switch no := b.Move(o.Legs); {
	case no == api.OK:
		status = api.Settled
	case no == api.ErrOver:
		return api.Answer{Err: no}
	case !room:
		return api.Answer{Err: api.ErrFull}
	default:
		b.Queue = append(b.Queue, o.Id)
	}
	b.Records[o.Id] = api.Record{Status: status, Legs: slices.Clone(o.Legs)}
	return api.Answer{Status: status}
}

// ask does what is asked about one record.
func (b *Book) ask(o api.Op) api.Answer {
	status := b.Records[o.Id].Status
	switch {
	case status == api.None:
		return api.Answer{Err: api.ErrLost}
	case o.Code == api.OpStatus:
		return api.Answer{Status: status}
	case status != api.Pending:
		return api.Answer{Err: api.ErrFinal}
	}
	b.end(o.Id, api.Cancelled)
	return api.Answer{Status: api.Cancelled}
}

// Settle settles a pending instruction, if its legs are covered.
func (b *Book) Settle(id int) bool {
	if r := b.Records[id]; r.Status != api.Pending || b.Move(r.Legs) != api.OK {
		return false
	}
	b.end(id, api.Settled)
	return true
}

// end makes a record final: it leaves the queue.
func (b *Book) end(id, status int) {
	b.Records[id] = api.Record{Status: status, Legs: b.Records[id].Legs}
	b.Queue = slices.DeleteFunc(b.Queue, func(waits int) bool { return waits == id })
}
