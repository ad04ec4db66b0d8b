package ledger_test

import (
	"math"
	"slices"
	"testing"

	"custody/api"
	"custody/proof"
)

// P18.4

// one is a ledger in which one position alone is held, of account 2 and asset 1.
func one(t *testing.T, p api.Position) *twin {
	t.Helper()
	if p.Avail == 0 && len(p.Marks) == 0 {
		return newTwin(t, setup(1))
	}
	return loaded(t, setup(1), state([]api.Balance{holds(2, 1, p)}))
}

// turned checks an operation on that position.
func turned(t *testing.T, p api.Position, o api.Op, after api.Position) {
	t.Helper()
	x := one(t, p)
	x.steps(step{o, said(0)}, step{snapshot(2, 1), api.Answer{Positions: []api.Position{after}}})
	if after.Avail == 0 && len(after.Marks) == 0 {
		x.has(api.State{})
	} else {
		x.has(state([]api.Balance{holds(2, 1, after)}))
	}
}

// refused checks that an operation on that position is refused so, and changes nothing.
func refused(t *testing.T, p api.Position, o api.Op, err api.Errno) {
	t.Helper()
	x := one(t, p)
	ahead := x.l.State()
	x.steps(step{o, no(err)})
	x.has(ahead)
}

func TestDeposit(t *testing.T) {
	turned(t, pos(0), held(1, 2, 1, 1), pos(1))
	turned(t, pos(0), held(1, 2, 1, most), pos(most))
	turned(t, pos(5), held(1, 2, 1, 3), pos(8))
	turned(t, pos(2, 7, 3), held(1, 2, 1, most-5), pos(most-3, 7, 3))
	refused(t, pos(1), held(1, 2, 1, most), api.ErrOver)
	refused(t, pos(most), held(1, 2, 1, 1), api.ErrOver)
	refused(t, pos(2, 7, 3), held(1, 2, 1, most-4), api.ErrOver)
}

func TestWithdraw(t *testing.T) {
	turned(t, pos(5), held(2, 2, 1, 3), pos(2))
	turned(t, pos(5), held(2, 2, 1, 5), pos(0)) // of nothing that is held no trace is left
	turned(t, pos(most), held(2, 2, 1, most), pos(0))
	turned(t, pos(5, 7, 3), marked(2, 2, 1, 5, 7), pos(0, 7, 3))
	refused(t, pos(0), held(2, 2, 1, 1), api.ErrCover)
	refused(t, pos(5), held(2, 2, 1, 6), api.ErrCover)
	refused(t, pos(5, 7, 3), marked(2, 2, 1, 6, 7), api.ErrCover)
}

func TestMark(t *testing.T) {
	eight := pos(3, 1, 1, 2, 1, 3, 1, 4, 1, 5, 1, 6, 1, 7, 1, 8, 1)
	turned(t, pos(5), marked(3, 2, 1, 3, 7), pos(2, 7, 3))
	turned(t, pos(5), marked(3, 2, 1, 5, 65536), pos(0, 65536, 5))
	turned(t, pos(5, 7, 3), marked(3, 2, 1, 1, 4), pos(4, 4, 1, 7, 3))
	turned(t, pos(5, 7, 3), marked(3, 2, 1, 5, 7), pos(0, 7, 8))
	turned(t, eight, marked(3, 2, 1, 3, 8), pos(0, 1, 1, 2, 1, 3, 1, 4, 1, 5, 1, 6, 1, 7, 1, 8, 4))
	refused(t, pos(0), marked(3, 2, 1, 1, 7), api.ErrCover)
	refused(t, pos(5, 7, 3), marked(3, 2, 1, 6, 7), api.ErrCover)
	refused(t, eight, marked(3, 2, 1, 3, 9), api.ErrMany)
	refused(t, eight, marked(3, 2, 1, 4, 9), api.ErrCover)
}

func TestUnmark(t *testing.T) {
	turned(t, pos(2, 7, 3), marked(4, 2, 1, 1, 7), pos(3, 7, 2))
	turned(t, pos(2, 7, 3), marked(4, 2, 1, 3, 7), pos(5))
	turned(t, pos(0, 1, 1, 7, 3, 9, 2), marked(4, 2, 1, 3, 7), pos(3, 1, 1, 9, 2))
	refused(t, pos(0), marked(4, 2, 1, 1, 7), api.ErrMark)
	refused(t, pos(9, 7, 3), marked(4, 2, 1, 4, 8), api.ErrMark)
	refused(t, pos(9, 7, 3), marked(4, 2, 1, 4, 7), api.ErrCover)
}

// stock is what is held where instructions are handed in: account 0 has 5 of asset 0, account 1 has 9 of asset 1, of which 4 under 7.
func stock() []api.Balance { return []api.Balance{holds(0, 0, pos(5)), holds(1, 1, pos(5, 7, 4))} }

// swap is an instruction of two legs over that.
func swap(id int, there, back int64) api.Op {
	return submit(id, leg(0, 1, 0, there, 0), leg(1, 0, 1, back, 7))
}

func TestSubmitSettles(t *testing.T) {
	for _, queue := range []int{0, 1, 2} {
		x := loaded(t, setup(queue), state(stock()))
		x.steps(step{swap(8, 5, 9), said(api.Settled)})
		x.has(state([]api.Balance{holds(0, 1, pos(9)), holds(1, 0, pos(5))}, record(8, api.Settled, swap(8, 5, 9).Legs...)))
		// what one brought another one may take
		x.steps(step{submit(3, leg(0, 2, 1, 9, 0)), said(api.Settled)})
		x.has(state([]api.Balance{holds(1, 0, pos(5)), holds(2, 1, pos(9))}, record(3, api.Settled, leg(0, 2, 1, 9, 0)), record(8, api.Settled, swap(8, 5, 9).Legs...)))
	}
}

func TestSubmitWaits(t *testing.T) {
	for _, o := range []api.Op{
		swap(8, 6, 9), swap(8, 5, 10), swap(8, most, most), submit(8, leg(1, 0, 1, 6, 0)), submit(8, leg(2, 0, 0, 1, 0)),
		submit(8, leg(0, 1, 0, 5, 0), leg(1, 0, 0, 5, 0)), // all debits are there ahead of all credits
		submit(8, leg(0, 1, 0, 3, 0), leg(0, 1, 0, 3, 0)),
	} {
		x := loaded(t, setup(0), state(stock()))
		x.steps(step{o, no(api.ErrFull)})
		x.has(state(stock()))
		x = loaded(t, setup(1), state(stock()))
		x.steps(step{o, said(api.Pending)})
		x.has(state(stock(), record(8, api.Pending, o.Legs...)))
	}
}

// TestSubmitRoom: the queue has room for as many as the configuration says; who leaves it makes room, and what is covered needs none.
func TestSubmitRoom(t *testing.T) {
	wait := func(id int) api.Op { return submit(id, leg(2, 0, 0, 1, 0)) }
	for _, queue := range []int{0, 1, 2, 3, 5} {
		x := loaded(t, setup(queue), state(stock()))
		for id := 1; id <= queue; id++ {
			x.steps(step{wait(10 - id), said(api.Pending)})
		}
		x.steps(step{wait(20), no(api.ErrFull)}, step{wait(20), no(api.ErrFull)}, step{ided(7, 20), no(api.ErrLost)}, step{swap(21, 5, 9), said(api.Settled)}, step{wait(20), no(api.ErrFull)})
		if queue == 0 {
			continue
		}
		x.steps(step{wait(9), no(api.ErrTwice)}, step{ided(6, 9), said(api.Cancelled)}, step{wait(20), said(api.Pending)}, step{wait(22), no(api.ErrFull)}, step{held(1, 2, 0, 1), said(0)})
		if !x.settle(20) {
			t.Error("20 doesn't settle")
		}
		x.steps(step{wait(22), said(api.Pending)}, step{wait(23), no(api.ErrFull)})
	}
}

// TestSubmitFullQueue: the longest queue that there may be.
func TestSubmitFullQueue(t *testing.T) {
	x := newTwin(t, setup(256))
	var ids []int
	for n := range 256 {
		id := (n*37 + 11) % 256 * 4294967295 // the ids don't rise, but they come in this order
		ids = append(ids, id+1)
		x.steps(step{submit(id+1, leg(0, 1, 0, int64(n)+1, 0)), said(api.Pending)})
	}
	x.steps(step{submit(2, leg(0, 1, 0, 1, 0)), no(api.ErrFull)})
	if s := x.l.State(); !slices.Equal(s.Queue, ids) || len(s.Instructions) != 256 {
		t.Errorf("the queue is %v", s.Queue)
	}
	x.steps(step{held(1, 0, 0, 5), said(0)})
	if got := x.ready(); !slices.Equal(got, ids[:5]) {
		t.Errorf("Ready is %v; want %v", got, ids[:5])
	}
}

func TestSubmitOver(t *testing.T) {
	for _, queue := range []int{0, 1} {
		x := loaded(t, setup(queue), state([]api.Balance{holds(0, 0, pos(5)), holds(1, 0, pos(most-4)), holds(1, 1, pos(5, 7, 4))}))
		ahead := x.l.State()
		x.steps(step{swap(8, 5, 9), no(api.ErrOver)}, step{submit(8, leg(0, 1, 0, 5, 0)), no(api.ErrOver)})
		x.has(ahead)
		// cover is looked at first: it waits, or there is no room
		answer := map[int]api.Answer{0: no(api.ErrFull), 1: said(api.Pending)}[queue]
		x.steps(step{swap(8, 5, 10), answer}, step{submit(9, leg(0, 1, 0, 4, 0)), said(api.Settled)})
	}
}

// TestSubmitTwice: there is one record of an id, whatever its status, the legs and the room.
func TestSubmitTwice(t *testing.T) {
	for _, queue := range []int{1, 2} {
		for _, status := range []int{api.Pending, api.Settled, api.Cancelled} {
			x := loaded(t, setup(queue), state([]api.Balance{holds(0, 0, pos(5)), holds(1, 0, pos(most-4))}, record(8, status, leg(0, 1, 1, 1, 0))))
			ahead := x.l.State()
			for _, o := range []api.Op{submit(8, leg(0, 1, 0, 1, 0)), submit(8, leg(0, 1, 0, 5, 0)), submit(8, leg(0, 1, 0, 6, 0)), submit(8, leg(0, 1, 1, 1, 0))} {
				x.steps(step{o, no(api.ErrTwice)})
			}
			x.has(ahead)
		}
	}
}

func TestCancel(t *testing.T) {
	legs := []api.Leg{leg(0, 1, 0, 6, 0), leg(1, 0, 1, 1, 7)}
	x := loaded(t, setup(3), state(stock(), record(3, api.Settled, legs...), record(4, api.Pending, legs...), record(6, api.Pending, leg(0, 1, 0, 5, 0)), record(8, api.Pending, legs...)))
	x.steps(step{ided(6, 5), no(api.ErrLost)}, step{ided(6, 3), no(api.ErrFinal)}, step{ided(6, 6), said(api.Cancelled)}) // one that is ready may be cancelled
	x.has(state(stock(), record(3, api.Settled, legs...), record(4, api.Pending, legs...), record(6, api.Cancelled, leg(0, 1, 0, 5, 0)), record(8, api.Pending, legs...)))
	x.steps(step{ided(6, 6), no(api.ErrFinal)}, step{ided(6, 8), said(api.Cancelled)}, step{ided(6, 4), said(api.Cancelled)})
	x.has(state(stock(), record(3, api.Settled, legs...), record(4, api.Cancelled, legs...), record(6, api.Cancelled, leg(0, 1, 0, 5, 0)), record(8, api.Cancelled, legs...)))
}

func TestStatus(t *testing.T) {
	x := loaded(t, setup(3), state(stock(), record(3, api.Settled, leg(0, 1, 0, 1, 0)), record(4, api.Pending, leg(0, 1, 0, 1, 0)), record(6, api.Cancelled, leg(0, 1, 0, 1, 0))))
	ahead := x.l.State()
	x.steps(step{ided(7, 3), said(api.Settled)}, step{ided(7, 4), said(api.Pending)}, step{ided(7, 6), said(api.Cancelled)}, step{ided(7, 5), no(api.ErrLost)}, step{ided(7, 1<<40), no(api.ErrLost)})
	x.has(ahead)
}

func TestSnapshot(t *testing.T) {
	x := loaded(t, setup(1), state(stock(), record(1, api.Pending, leg(0, 1, 0, 6, 0))))
	ahead := x.l.State()
	told := func(l ...api.Position) api.Answer { return api.Answer{Positions: l} }
	x.steps(
		step{snapshot(), told()},
		step{snapshot(1, 1), told(pos(5, 7, 4))},
		step{snapshot(1, 1, 0, 0, 1, 1, 2, 1), told(pos(5, 7, 4), pos(5), pos(5, 7, 4), pos(0))}, // in their order, one twice, one that isn't held
		step{snapshot(2, 1, 2, 1), told(pos(0), pos(0))},
		step{api.Op{Code: 8, Pairs: slices.Repeat(keys(0, 0, 1, 1), 32)}, told(slices.Repeat([]api.Position{pos(5), pos(5, 7, 4)}, 32)...)},
		step{api.Op{Code: 8, Pairs: slices.Repeat(keys(0, 0), 65)}, no(api.ErrMany)},
		step{snapshot(0, 0, 3, 0), no(api.ErrAccount)}, step{snapshot(0, 0, -1, 1), no(api.ErrAccount)}, step{snapshot(0, 2), no(api.ErrAsset)}, step{snapshot(0, -1, 3, 0), no(api.ErrAsset)},
	)
	x.has(ahead)
	x.steps(step{held(2, 0, 0, 5), said(0)}, step{snapshot(0, 0), told(pos(0))}) // what was held once is nothing too
}

// filled is an operation of a code of which all other fields are right.
func filled(code int) api.Op {
	return api.Op{Code: code, Qty: 1, Name: 7, Id: 4, Legs: []api.Leg{leg(0, 1, 0, 1, 0)}, Pairs: keys(0, 0)}
}

// TestRefusedByItself: what is wrong with an operation whatever is held is told ahead of all, and changes nothing.
func TestRefusedByItself(t *testing.T) {
	rows := []step{}
	wrong := func(e api.Errno, l ...api.Op) {
		for _, o := range l {
			rows = append(rows, step{o, no(e)})
		}
	}
	for code := 1; code <= 4; code++ {
		wrong(api.ErrAccount, marked(code, -1, -1, 0, 0), marked(code, 3, 2, 0, 0), marked(code, math.MinInt, 0, 1, 7), marked(code, math.MaxInt, 0, 1, 7), marked(code, -1, 4, 1, 7))
		wrong(api.ErrAsset, marked(code, 0, -1, 0, 0), marked(code, 2, 2, 0, 0), marked(code, 0, math.MaxInt, 1, 7))
		wrong(api.ErrAmount, marked(code, 2, 1, 0, 0), marked(code, 0, 0, -1, 7), marked(code, 0, 0, least, 7))
	}
	for code := 3; code <= 4; code++ {
		wrong(api.ErrMark, marked(code, 0, 0, 1, 0), marked(code, 0, 0, most, -1), marked(code, 0, 0, 1, 65537), marked(code, 0, 0, 1, math.MinInt))
	}
	good := leg(0, 1, 0, 1, 0)
	for code := 5; code <= 7; code++ {
		for _, id := range []int{0, -1, 1<<40 + 1, math.MinInt, math.MaxInt} {
			wrong(api.ErrArg, api.Op{Code: code, Id: id}, api.Op{Code: code, Id: id, Legs: []api.Leg{good}})
		}
	}
	for _, id := range []int{1, 4} { // of an id that has a record too
		wrong(api.ErrShort, submit(id))
		wrong(api.ErrMany, submit(id, good, good, good, good, good), submit(id, make([]api.Leg, 5)...))
		wrong(api.ErrAccount, submit(id, leg(3, 3, 2, 0, -1)), submit(id, leg(0, -1, 2, 0, -1)), submit(id, good, leg(0, 3, 0, 1, 0)))
		wrong(api.ErrSame, submit(id, leg(0, 0, 2, 0, -1)), submit(id, good, leg(2, 2, 0, 1, 0)))
		wrong(api.ErrAsset, submit(id, leg(0, 1, 2, 0, -1)), submit(id, leg(0, 1, -1, 1, 0)))
		wrong(api.ErrAmount, submit(id, leg(0, 1, 0, 0, -1)), submit(id, leg(0, 1, 0, least, 0)))
		wrong(api.ErrMark, submit(id, leg(0, 1, 0, 1, -1)), submit(id, good, good, good, leg(0, 1, 0, 1, 65537)))
	}
	for _, code := range []int{math.MinInt, -1, 0, 9, 256, 1<<32 + 1, math.MaxInt} {
		wrong(api.ErrCode, filled(code))
	}
	for _, queue := range []int{1, 2} {
		x := loaded(t, setup(queue), state(stock(), record(4, api.Pending, good)))
		ahead := x.l.State()
		x.steps(rows...)
		x.has(ahead)
	}
}

// TestDoSettlesNoOther: no instruction is settled by an operation but the one that is handed in.
func TestDoSettlesNoOther(t *testing.T) {
	x := newTwin(t, setup(3))
	x.steps(
		step{submit(1, leg(0, 1, 0, 5, 0)), said(api.Pending)}, step{submit(2, leg(1, 2, 0, 5, 0)), said(api.Pending)},
		step{held(1, 0, 0, 5), said(0)}, step{ided(7, 1), said(api.Pending)},
		step{submit(3, leg(0, 1, 0, 5, 0)), said(api.Settled)}, // it came last, and it is first
		step{ided(7, 1), said(api.Pending)}, step{ided(7, 2), said(api.Pending)}, step{held(1, 0, 0, 1), said(0)},
		step{submit(4, leg(1, 0, 0, 6, 0)), said(api.Pending)}, step{snapshot(0, 0, 1, 0, 2, 0), api.Answer{Positions: []api.Position{pos(1), pos(5), {}}}},
	)
	if got := x.ready(); !slices.Equal(got, []int{2}) {
		t.Errorf("Ready is %v", got)
	}
}

// TestDoAllSmall holds all small operations of one account, over small positions, all statuses and queues, against the reckoning.
func TestDoAllSmall(t *testing.T) {
	full := pos(2, 1, 1, 2, 1, 3, 1, 4, 1, 5, 1, 6, 1, 7, 1, 9, 1)
	for _, p := range []api.Position{pos(1), pos(2), pos(0, 7, 2), pos(1, 7, 1), pos(1, 8, 1), pos(most), pos(most-1, 7, 1), full} {
		for status := 1; status <= 3; status++ {
			for queue := range 3 {
				s := state([]api.Balance{holds(0, 0, p), holds(1, 0, pos(1))}, record(1, status, leg(0, 1, 0, 2, 7)))
				if len(s.Queue) > queue {
					continue
				}
				for code := range 10 {
					for _, qty := range []int64{-1, 0, 1, 2, 3, most} {
						for _, name := range []int{0, 7, 8} {
							for id := 1; id <= 2; id++ {
								x := loaded(t, setup(queue), s)
								o := api.Op{Code: code, Qty: qty, Name: name, Id: id, Legs: []api.Leg{leg(0, 1, 0, qty, name)}, Pairs: keys(0, 0)}
								if a := x.do(o); a.Err != api.OK {
									x.has(s)
								}
								x.ready()
							}
						}
					}
				}
			}
		}
	}
}

// TestFieldsNotItsOwn: what an operation doesn't have is not looked at.
func TestFieldsNotItsOwn(t *testing.T) {
	junk := api.Op{Account: -5, Asset: -5, Qty: -5, Name: -5, Id: -5, Legs: make([]api.Leg, 9), Pairs: make([]api.Key, 99)}
	with := func(o api.Op, turn func(o *api.Op)) api.Op {
		turn(&o)
		return o
	}
	x := loaded(t, setup(2), state(stock()))
	for _, o := range []api.Op{
		with(junk, func(o *api.Op) { o.Code, o.Account, o.Asset, o.Qty = 1, 0, 0, 1 }),
		with(junk, func(o *api.Op) { o.Code, o.Account, o.Asset, o.Qty = 2, 0, 0, 1 }),
		with(junk, func(o *api.Op) { o.Code, o.Account, o.Asset, o.Qty, o.Name = 3, 0, 0, 1, 7 }),
		with(junk, func(o *api.Op) { o.Code, o.Account, o.Asset, o.Qty, o.Name = 4, 0, 0, 1, 7 }),
		with(junk, func(o *api.Op) { o.Code, o.Id, o.Legs = 5, 8, []api.Leg{leg(0, 1, 0, 6, 0)} }),
		with(junk, func(o *api.Op) { o.Code, o.Id = 7, 8 }),
		with(junk, func(o *api.Op) { o.Code, o.Id = 6, 8 }),
		with(junk, func(o *api.Op) { o.Code, o.Pairs = 8, keys(0, 0) }),
	} {
		if a := x.do(o); a.Err != api.OK {
			t.Errorf("Do(%+v) is %+v", o, a)
		}
	}
	if !proof.SameState(x.l.State(), state(stock(), record(8, api.Cancelled, leg(0, 1, 0, 6, 0)))) {
		t.Errorf("the state is %+v", x.l.State())
	}
}
