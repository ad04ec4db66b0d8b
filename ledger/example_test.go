package ledger_test

import (
	"slices"
	"testing"

	"custody/api"
)

// The chapter's examples, in their order: a ledger of 3 accounts, 2 assets, with room for one in its queue.

func both(id int) api.Op { return submit(id, leg(0, 1, 0, 5, 0), leg(1, 0, 1, 70, 0)) }

func TestExampleSettled(t *testing.T) {
	x := newTwin(t, setup(1))
	x.steps(step{held(api.OpDeposit, 0, 0, 5), said(0)}, step{held(api.OpDeposit, 1, 1, 70), said(0)}, step{both(7), said(api.Settled)})
	x.has(state([]api.Balance{holds(0, 1, pos(70)), holds(1, 0, pos(5))}, record(7, api.Settled, both(7).Legs...)))
}

func TestExamplePending(t *testing.T) {
	x := newTwin(t, setup(1))
	x.steps(step{held(api.OpDeposit, 0, 0, 5), said(0)}, step{both(7), said(api.Pending)}, step{submit(8, leg(1, 2, 0, 5, 0)), no(api.ErrFull)}, step{held(api.OpDeposit, 1, 1, 70), said(0)})
	if ready, drained := x.ready(), x.drain(); !slices.Equal(ready, []int{7}) || !slices.Equal(drained, []int{7}) {
		t.Errorf("Ready is %v, Drain %v", ready, drained)
	}
	x.steps(step{ided(api.OpStatus, 7), said(api.Settled)})
}

func TestExampleCancelled(t *testing.T) {
	o := submit(7, leg(0, 1, 0, 5, 0))
	newTwin(t, setup(1)).steps(
		step{o, said(api.Pending)}, step{o, no(api.ErrTwice)}, step{ided(api.OpCancel, 7), said(api.Cancelled)}, step{ided(api.OpCancel, 7), no(api.ErrFinal)},
		step{ided(api.OpCancel, 9), no(api.ErrLost)}, step{o, no(api.ErrTwice)},
	)
}

func TestExampleOver(t *testing.T) {
	x := newTwin(t, setup(1))
	x.steps(step{held(api.OpDeposit, 1, 0, most), said(0)}, step{held(api.OpDeposit, 0, 0, 5), said(0)}, step{submit(7, leg(0, 1, 0, 5, 0)), no(api.ErrOver)})
	totals(t, x, 0, 0, 1<<63+4)
}

func TestExampleRefused(t *testing.T) {
	newTwin(t, setup(1)).steps(
		step{held(api.OpDeposit, 3, 0, 1), no(api.ErrAccount)}, step{held(api.OpDeposit, 0, 2, 1), no(api.ErrAsset)}, step{held(api.OpDeposit, 0, 0, 0), no(api.ErrAmount)}, step{api.Op{Code: 9}, no(api.ErrCode)},
	)
}

func TestExampleSnapshot(t *testing.T) {
	newTwin(t, setup(1)).steps(
		step{held(api.OpDeposit, 0, 0, 5), said(0)}, step{marked(api.OpMark, 0, 0, 4, 9), said(0)},
		step{snapshot(0, 0, 2, 1), api.Answer{Positions: []api.Position{pos(1, 9, 4), {}}}},
	)
}
