package ledger_test

import (
	"math"
	"slices"
	"testing"

	"custody/api"
)

// P18.5

// hall is a ledger with instructions of each kind: 2 is ready, 4 is not covered, 5 would overflow, 6 is settled, 7 is cancelled.
func hall(t *testing.T) *twin {
	t.Helper()
	return loaded(t, setup(3), state([]api.Balance{holds(0, 0, pos(5)), holds(1, 1, pos(5, 7, 4)), holds(2, 0, pos(most-4))},
		record(2, api.Pending, leg(0, 1, 0, 5, 0), leg(1, 0, 1, 9, 7)), record(4, api.Pending, leg(0, 1, 0, 6, 0)), record(5, api.Pending, leg(0, 2, 0, 5, 0)),
		record(6, api.Settled, leg(0, 1, 0, 1, 0)), record(7, api.Cancelled, leg(0, 1, 0, 1, 0))))
}

func TestSettle(t *testing.T) {
	x := hall(t)
	if !x.settle(2) {
		t.Error("2 doesn't settle")
	}
	behind := state([]api.Balance{holds(0, 1, pos(9)), holds(1, 0, pos(5)), holds(2, 0, pos(most-4))},
		record(2, api.Settled, leg(0, 1, 0, 5, 0), leg(1, 0, 1, 9, 7)), record(4, api.Pending, leg(0, 1, 0, 6, 0)), record(5, api.Pending, leg(0, 2, 0, 5, 0)),
		record(6, api.Settled, leg(0, 1, 0, 1, 0)), record(7, api.Cancelled, leg(0, 1, 0, 1, 0)))
	x.has(behind)
	if x.settle(2) {
		t.Error("2 settles twice")
	}
	x.has(behind)
}

// TestSettleNot: what isn't ready doesn't settle, whatever the id, and nothing is changed.
func TestSettleNot(t *testing.T) {
	x := hall(t)
	ahead := x.l.State()
	for _, id := range []int{4, 5, 6, 7, 0, 1, 3, 8, -1, -2, 1 << 40, 1<<40 + 1, 2 + 1<<32, math.MaxInt, math.MinInt} {
		if x.settle(id) {
			t.Errorf("%d settles", id)
		}
		x.has(ahead)
	}
}

// TestSettleOutOfTurn: not only the first of the queue may settle; those that stay keep their order.
func TestSettleOutOfTurn(t *testing.T) {
	for _, at := range []int{3, 1, 2} {
		x := loaded(t, setup(3), api.State{
			Balances:     []api.Balance{holds(0, 0, pos(5))},
			Instructions: []api.Instruction{record(1, api.Pending, leg(0, 1, 0, 1, 0)), record(2, api.Pending, leg(0, 1, 0, 1, 0)), record(3, api.Pending, leg(0, 1, 0, 1, 0))},
			Queue:        []int{3, 1, 2},
		})
		if !x.settle(at) {
			t.Errorf("%d doesn't settle", at)
		}
		want := slices.DeleteFunc([]int{3, 1, 2}, func(id int) bool { return id == at })
		if s := x.l.State(); !slices.Equal(s.Queue, want) {
			t.Errorf("behind %d the queue is %v", at, s.Queue)
		}
		x.steps(step{submit(9, leg(2, 1, 0, 1, 0)), said(api.Pending)}) // behind all others
		if s := x.l.State(); !slices.Equal(s.Queue, append(want, 9)) {
			t.Errorf("the queue is %v", s.Queue)
		}
	}
}

// TestSettleBecomesReady: what was not covered settles when it is.
func TestSettleBecomesReady(t *testing.T) {
	x := hall(t)
	x.steps(step{held(1, 0, 0, 1), said(0)})
	if !x.settle(4) || x.settle(2) { // 4 took what 2 needs
		t.Error("4 doesn't settle, or 2 does")
	}
	x.steps(step{held(2, 2, 0, most-4), said(0)}, step{held(1, 0, 0, 5), said(0)})
	if !x.settle(5) {
		t.Error("5 doesn't settle")
	}
}

// P18.6 and P18.7

// drains checks Ready and Drain of a state against what is written down.
func drains(t *testing.T, s api.State, ready, drained []int) *twin {
	t.Helper()
	x := loaded(t, setup(8), s)
	if got := x.ready(); !slices.Equal(got, ready) {
		t.Errorf("Ready is %v; want %v", got, ready)
	}
	if got := x.drain(); !slices.Equal(got, drained) {
		t.Errorf("Drain is %v; want %v", got, drained)
	}
	if got, more := x.ready(), x.drain(); len(got) > 0 || len(more) > 0 {
		t.Errorf("behind Drain Ready is %v, and Drain %v", got, more)
	}
	return x
}

// waiting is a state in which these instructions wait, in this order.
func waiting(balances []api.Balance, l ...api.Instruction) api.State {
	s := api.State{Balances: balances}
	for _, x := range l {
		s.Queue = append(s.Queue, x.Id)
	}
	s.Instructions = slices.SortedFunc(slices.Values(l), func(a, b api.Instruction) int { return a.Id - b.Id })
	return s
}

func TestReadyNone(t *testing.T) {
	drains(t, api.State{}, nil, nil)
	drains(t, state(stock()), nil, nil)
	drains(t, state(stock(), record(1, api.Settled, leg(0, 1, 0, 5, 0)), record(2, api.Cancelled, leg(0, 1, 0, 5, 0))), nil, nil)
	drains(t, waiting(stock(), record(1, api.Pending, leg(0, 1, 0, 6, 0))), nil, nil)
	drains(t, waiting([]api.Balance{holds(0, 0, pos(5)), holds(1, 0, pos(most))}, record(1, api.Pending, leg(0, 1, 0, 1, 0))), nil, nil)
	// each waits for the other: gross, none can be first
	drains(t, waiting(nil, record(1, api.Pending, leg(0, 1, 0, 5, 0)), record(2, api.Pending, leg(1, 0, 0, 5, 0))), nil, nil)
}

func TestReadyOne(t *testing.T) {
	x := drains(t, waiting(stock(), record(8, api.Pending, leg(0, 1, 0, 6, 0)), record(3, api.Pending, leg(0, 1, 0, 5, 0))), []int{3}, []int{3})
	x.has(state([]api.Balance{holds(1, 0, pos(5)), holds(1, 1, pos(5, 7, 4))}, record(3, api.Settled, leg(0, 1, 0, 5, 0)), record(8, api.Pending, leg(0, 1, 0, 6, 0))))
}

func TestReadyInTheOrderOfTheQueue(t *testing.T) {
	one := leg(0, 1, 0, 1, 0)
	drains(t, waiting(stock(), record(9, api.Pending, one), record(2, api.Pending, one), record(5, api.Pending, leg(0, 1, 0, 6, 0)), record(1<<40, api.Pending, one), record(1, api.Pending, one)), []int{9, 2, 1 << 40, 1}, []int{9, 2, 1 << 40, 1})
}

// TestDrainTakesCover: what one takes another one lacks; the first of the queue comes first.
func TestDrainTakesCover(t *testing.T) {
	drains(t, waiting(stock(), record(9, api.Pending, leg(0, 1, 0, 4, 0)), record(2, api.Pending, leg(0, 1, 0, 5, 0)), record(5, api.Pending, leg(0, 2, 0, 1, 0)), record(4, api.Pending, leg(0, 2, 0, 1, 0))), []int{9, 2, 5, 4}, []int{9, 5})
}

// TestDrainMakesReady: one that settles makes another one ready, that stands ahead of others, or behind.
func TestDrainMakesReady(t *testing.T) {
	back := record(1, api.Pending, leg(1, 2, 0, 5, 0))
	there := record(2, api.Pending, leg(0, 1, 0, 5, 0))
	third := record(3, api.Pending, leg(2, 0, 0, 5, 0))
	drains(t, waiting(stock(), there, back, third), []int{2}, []int{2, 1, 3})
	drains(t, waiting(stock(), third, back, there), []int{2}, []int{2, 1, 3})
	drains(t, waiting(stock(), back, third, there), []int{2}, []int{2, 1, 3})
	// behind each settling the search begins at the front again
	other := record(4, api.Pending, leg(1, 0, 1, 1, 0))
	drains(t, waiting(stock(), back, there, other), []int{2, 4}, []int{2, 1, 4})
	drains(t, waiting(stock(), there, other, back), []int{2, 4}, []int{2, 4, 1})
	// one that would overflow is ready when there is room again
	over := record(5, api.Pending, leg(1, 2, 1, 5, 0))
	room := record(6, api.Pending, leg(2, 0, 1, most, 0))
	drains(t, waiting([]api.Balance{holds(1, 1, pos(5)), holds(2, 1, pos(most))}, over, room), []int{6}, []int{6, 5})
}

// TestDrainChain: the last of a long queue sets off all others, one by one.
func TestDrainChain(t *testing.T) {
	const n = 256
	c := api.Config{Accounts: n + 1, Assets: 1, Queue: n, Shards: 1}
	s := api.State{Balances: []api.Balance{holds(0, 0, pos(1))}}
	var order []int
	for id := 1; id <= n; id++ {
		s.Instructions = append(s.Instructions, record(id, api.Pending, leg(id-1, id, 0, 1, 0)))
		s.Queue = append(s.Queue, n+1-id)
		order = append(order, id)
	}
	x := loaded(t, c, s)
	if got := x.ready(); !slices.Equal(got, []int{1}) {
		t.Errorf("Ready is %v", got)
	}
	if got := x.l.Drain(); !slices.Equal(got, order) {
		t.Errorf("Drain is %v", got)
	}
	if got := x.l.State(); len(got.Queue) > 0 || len(got.Balances) != 1 || got.Balances[0].Key != key(n, 0) {
		t.Errorf("the state is %+v", got)
	}
}
