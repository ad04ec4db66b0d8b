package ledger_test

import (
	"math"
	"slices"
	"testing"

	"custody/api"
	"custody/ledger"
	"custody/proof"
)

// P18.8

// TestState: keys and ids rise, whatever the order in which they came; the queue has the order in which they came into it.
func TestState(t *testing.T) {
	x := newTwin(t, api.Config{Accounts: 12, Assets: 11, Queue: 9, Shards: 1})
	for _, k := range keys(9, 2, 0, 10, 11, 0, 0, 9, 9, 10, 10, 1, 0, 0, 2, 9) {
		x.steps(step{held(1, k.Account, k.Asset, int64(100*k.Account+k.Asset+1)), said(0)})
	}
	x.steps(
		step{submit(900, leg(3, 4, 0, 1, 0)), said(api.Pending)}, step{submit(7, leg(9, 1, 2, 903, 0)), said(api.Settled)}, step{submit(80, leg(3, 4, 1, 1, 0)), said(api.Pending)},
		step{submit(100, leg(3, 4, 0, 1, 0)), said(api.Pending)}, step{submit(1, leg(3, 4, 0, 1, 0)), said(api.Pending)}, step{ided(6, 80), said(api.Cancelled)}, step{marked(3, 2, 9, 9, 4), said(0)}, step{held(2, 0, 0, 1), said(0)},
	)
	wait := leg(3, 4, 0, 1, 0)
	x.has(api.State{
		Balances: []api.Balance{holds(0, 9, pos(10)), holds(0, 10, pos(11)), holds(1, 2, pos(903)), holds(2, 9, pos(201, 4, 9)), holds(9, 10, pos(911)), holds(10, 1, pos(1002)), holds(11, 0, pos(1101))},
		Instructions: []api.Instruction{
			record(1, api.Pending, wait), record(7, api.Settled, leg(9, 1, 2, 903, 0)), record(80, api.Cancelled, leg(3, 4, 1, 1, 0)), record(100, api.Pending, wait), record(900, api.Pending, wait),
		},
		Queue: []int{900, 100, 1},
	})
}

// TestStateAgain: State asked twice is the same.
func TestStateAgain(t *testing.T) {
	x := hall(t)
	for range 20 {
		x.has(hall(t).l.State())
	}
}

// P18.9

// totals checks Total of an asset against what is written down.
func totals(t *testing.T, x *twin, asset int, high, low uint64) {
	t.Helper()
	x.total(asset)
	if h, l := x.l.Total(asset); h != high || l != low {
		t.Errorf("Total(%d) is %d, %d; want %d, %d", asset, h, l, high, low)
	}
}

func TestTotal(t *testing.T) {
	x := loaded(t, setup(1), state([]api.Balance{holds(0, 0, pos(5)), holds(1, 0, pos(2, 7, 3)), holds(1, 1, pos(0, 1, 1, 2, 1)), holds(2, 0, pos(90, 1, 4, 65536, 6))}))
	totals(t, x, 0, 0, 110)
	totals(t, x, 1, 0, 2)
	for _, asset := range []int{2, 3, -1, 65536, math.MaxInt, math.MinInt} {
		totals(t, x, asset, 0, 0)
	}
	x.steps(step{submit(1, leg(0, 1, 0, 5, 0)), said(api.Settled)}, step{marked(3, 1, 0, 7, 9), said(0)}, step{submit(2, leg(0, 1, 0, 5, 0)), said(api.Pending)})
	totals(t, x, 0, 0, 110)
	totals(t, x, 1, 0, 2) // ids are no assets
	x.steps(step{held(1, 2, 1, 40), said(0)}, step{held(2, 2, 0, 90), said(0)})
	totals(t, x, 0, 0, 20)
	totals(t, x, 1, 0, 42)
}

// TestTotalWide: all positions together may be above 64 bits.
func TestTotalWide(t *testing.T) {
	x := newTwin(t, setup(1))
	for _, s := range []struct {
		o         api.Op
		high, low uint64
	}{
		{held(1, 0, 0, most), 0, most}, {held(1, 1, 0, 1), 0, 1 << 63}, {held(1, 1, 0, most-1), 0, math.MaxUint64 - 1}, {held(1, 2, 0, 1), 0, math.MaxUint64}, {held(1, 2, 0, 1), 1, 0},
		{held(1, 2, 0, 4), 1, 4}, {marked(3, 0, 0, most, 3), 1, 4}, {submit(1, leg(0, 2, 0, most-6, 3)), 1, 4}, {held(1, 0, 0, most-6), 1, most - 2}, {held(2, 1, 0, most), 0, math.MaxUint64 - 1},
	} {
		if a := x.do(s.o); a.Err != api.OK {
			t.Fatalf("Do(%+v) is %+v", s.o, a)
		}
		totals(t, x, 0, s.high, s.low)
		totals(t, x, 1, 0, 0)
	}
}

// TestTotalOfAll: as many accounts as there may be, each with the greatest amount.
func TestTotalOfAll(t *testing.T) {
	c := api.Config{Accounts: 65536, Assets: 65536, Shards: 1}
	var s api.State
	for n := range 65536 {
		s.Balances = append(s.Balances, holds(n, 65535, pos(most)))
	}
	l, err := ledger.Load(c, s)
	if err != nil || !proof.SameState(l.State(), s) {
		t.Fatalf("Load is %v", err)
	}
	if high, low := l.Total(65535); high != 1<<15-1 || low != math.MaxUint64-65535 {
		t.Errorf("Total is %d, %d", high, low)
	}
	if high, low := l.Total(65534); high != 0 || low != 0 {
		t.Errorf("Total of what isn't held is %d, %d", high, low)
	}
}

// P18.3 and P18.11

// TestLoadGoesOn: a ledger that is loaded with a state answers on as the one whose state it was.
func TestLoadGoesOn(t *testing.T) {
	x := hall(t)
	y := loaded(t, x.c, x.l.State())
	if a, b := x.ready(), y.ready(); !slices.Equal(a, b) || !slices.Equal(b, []int{2}) {
		t.Errorf("Ready is %v, and %v", a, b)
	}
	for _, o := range []api.Op{submit(8, leg(2, 1, 1, 1, 0)), ided(6, 4), submit(8, leg(2, 1, 1, 1, 0)), ided(7, 7), held(2, 1, 1, 6), snapshot(1, 1, 2, 0), submit(6, leg(0, 1, 0, 1, 0))} {
		if a, b := x.do(o), y.do(o); !proof.SameAnswer(a, b) {
			t.Errorf("Do(%+v) is %+v, and %+v", o, a, b)
		}
	}
	if a, b := x.drain(), y.drain(); !slices.Equal(a, b) || !slices.Equal(b, []int{2}) {
		t.Errorf("Drain is %v, and %v", a, b)
	}
	x.has(y.l.State())
}

// TestLoadKeepsTheQueue: the order of the queue is the state's, and not that of the ids.
func TestLoadKeepsTheQueue(t *testing.T) {
	one := leg(0, 1, 0, 1, 0)
	for _, order := range [][]int{{1, 2, 3}, {3, 2, 1}, {2, 3, 1}, {2, 1, 3}} {
		s := api.State{Balances: []api.Balance{holds(0, 0, pos(2))}, Instructions: []api.Instruction{record(1, api.Pending, one), record(2, api.Pending, one), record(3, api.Pending, one)}, Queue: order}
		x := loaded(t, setup(3), s)
		x.has(s)
		if got := x.drain(); !slices.Equal(got, order[:2]) {
			t.Errorf("Drain of %v is %v", order, got)
		}
	}
}

// TestLoadWrong: of a wrong state there is no ledger, and the error is Check's.
func TestLoadWrong(t *testing.T) {
	for _, l := range flaws() {
		for _, x := range l {
			s := right()
			x.turn(&s)
			if got, err := ledger.Load(wide(), s); got != nil || !proof.Tells(err, x.no) {
				t.Errorf("Load(%+v) is %v, %v; want %v", s, got, err, x.no)
			}
		}
	}
	if got, err := ledger.Load(api.Config{}, right()); got != nil || !proof.Tells(err, api.ErrArg) {
		t.Errorf("Load without a configuration is %v, %v", got, err)
	}
}
