package ledger_test

import (
	"math"
	"testing"

	"custody/api"
	"custody/ledger"
	"custody/proof"
)

// P18.1

// span is a number of a configuration, and from where to where it may be.
type span struct {
	set       func(c *api.Config, n int)
	low, high int
}

func spans() []span {
	return []span{
		{func(c *api.Config, n int) { c.Accounts = n }, 1, 65536},
		{func(c *api.Config, n int) { c.Assets = n }, 1, 65536},
		{func(c *api.Config, n int) { c.Queue = n }, 0, 256},
		{func(c *api.Config, n int) { c.Shards = n }, 1, 64},
		{func(c *api.Config, n int) { c.Workers = n }, 0, 8},
	}
}

// configured checks New, Check and Load of a configuration.
func configured(t *testing.T, c api.Config, want api.Errno) {
	t.Helper()
	l, err := ledger.New(c)
	if !proof.Tells(err, want) || (l == nil) != (want != api.OK) {
		t.Errorf("New(%+v) is %v, %v; want %v", c, l, err, want)
	}
	checks(t, c, api.State{}, want)
}

func TestNewEnds(t *testing.T) {
	for n, x := range spans() {
		for _, base := range []api.Config{setup(1), {Accounts: 1, Assets: 1, Shards: 1}, {Accounts: 65536, Assets: 65536, Queue: 256, Shards: 64, Workers: 8}} {
			for _, number := range []int{x.low, x.low + 1, x.high - 1, x.high} {
				c := base
				x.set(&c, number)
				configured(t, c, api.OK)
			}
			for _, number := range []int{x.low - 1, -1, math.MinInt, x.high + 1, math.MaxInt, 1 << 32, 1<<32 + 1} {
				c := base
				x.set(&c, number)
				configured(t, c, api.ErrArg)
				spans()[(n+1)%5].set(&c, -1) // two are wrong
				configured(t, c, api.ErrArg)
			}
		}
	}
	configured(t, api.Config{}, api.ErrArg)
}

// TestNewHoldsNothing: in a new ledger nothing is held, and there is no record.
func TestNewHoldsNothing(t *testing.T) {
	for _, c := range []api.Config{setup(0), setup(1), {Accounts: 1, Assets: 1, Shards: 64, Workers: 8}, {Accounts: 65536, Assets: 65536, Queue: 256, Shards: 64}} {
		l, err := ledger.New(c)
		if err != nil || !proof.SameState(l.State(), api.State{}) || len(l.Ready()) > 0 || len(l.Drain()) > 0 {
			t.Fatalf("New(%+v) is %v, and holds %+v", c, err, l.State())
		}
		x := newTwin(t, c)
		x.steps(
			step{ided(api.OpStatus, 1), no(api.ErrLost)}, step{ided(api.OpCancel, 1), no(api.ErrLost)},
			step{held(api.OpWithdraw, 0, 0, 1), no(api.ErrCover)}, step{marked(api.OpUnmark, 0, 0, 1, 1), no(api.ErrMark)},
			step{snapshot(0, 0, c.Accounts-1, c.Assets-1), api.Answer{Positions: make([]api.Position, 2)}},
		)
		for _, asset := range []int{-1, 0, c.Assets - 1, c.Assets} {
			if high, low := l.Total(asset); high != 0 || low != 0 {
				t.Errorf("Total(%d) is %d, %d", asset, high, low)
			}
		}
	}
}

// TestNewLedgersAreApart: two ledgers know nothing of each other.
func TestNewLedgersAreApart(t *testing.T) {
	x, y := newTwin(t, setup(1)), newTwin(t, setup(1))
	x.steps(step{held(api.OpDeposit, 0, 0, 5), said(0)}, step{submit(7, leg(0, 1, 0, 6, 0)), said(api.Pending)})
	y.has(api.State{})
	y.steps(step{submit(7, leg(0, 1, 0, 1, 0)), said(api.Pending)}, step{held(api.OpDeposit, 1, 1, 5), said(0)})
	x.has(state([]api.Balance{holds(0, 0, pos(5))}, record(7, api.Pending, leg(0, 1, 0, 6, 0))))
}

// TestAccountsAndAssets: a ledger has just as many as its configuration says.
func TestAccountsAndAssets(t *testing.T) {
	for _, c := range []api.Config{{Accounts: 2, Assets: 1, Shards: 1}, {Accounts: 3, Assets: 7, Shards: 1}, {Accounts: 65536, Assets: 65536, Shards: 1}} {
		newTwin(t, c).steps(
			step{held(api.OpDeposit, c.Accounts-1, c.Assets-1, 5), said(0)},
			step{held(api.OpDeposit, c.Accounts, c.Assets-1, 5), no(api.ErrAccount)},
			step{held(api.OpDeposit, c.Accounts-1, c.Assets, 5), no(api.ErrAsset)},
			step{submit(1, leg(c.Accounts-1, 0, c.Assets-1, 5, 0)), said(api.Settled)},
			step{submit(2, leg(0, c.Accounts, c.Assets-1, 5, 0)), no(api.ErrAccount)},
			step{submit(2, leg(0, 1, c.Assets, 5, 0)), no(api.ErrAsset)},
			step{snapshot(0, c.Assets-1, c.Accounts-1, c.Assets-1), api.Answer{Positions: []api.Position{pos(5), {}}}},
			step{snapshot(0, c.Assets), no(api.ErrAsset)}, step{snapshot(c.Accounts, 0), no(api.ErrAccount)}, step{snapshot(-1, 1), no(api.ErrAccount)},
		)
	}
}
