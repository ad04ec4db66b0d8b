package engine_test

import (
	"slices"
	"testing"

	"custody/api"
	"custody/guard"
	"custody/proof"
)

// P20.2, of one session in one shard: an operation that commits ends five turns (a Status four), a Snapshot one and one for each pair, a row that is refused one; the last turn ends the session.

// wrongRows are rows that are refused by themselves, and by what.
func wrongRows() []step {
	many := slices.Repeat([]api.Leg{leg(0, 1, 0, 1, 0)}, 5)
	wide := slices.Repeat([]int{0, 0}, 65)
	of := func(no api.Errno, l ...int64) step { return step{l, 0, api.Answer{Err: no}} }
	is := func(no api.Errno, row []int64) step { return of(no, row...) }
	return []step{
		// by Decode
		of(api.ErrShort), of(api.ErrCode, 0), of(api.ErrCode, 9), of(api.ErrCode, -1), of(api.ErrCode, 1<<62), of(api.ErrCode, 257, 0, 0, 5), of(api.ErrCode, 1<<32+1, 0, 0, 5),
		of(api.ErrShort, 1), of(api.ErrShort, 1, 0, 0), of(api.ErrLong, 1, 0, 0, 5, 0), of(api.ErrShort, 2, 0, 0), of(api.ErrLong, 2, 0, 0, 5, 1),
		of(api.ErrShort, 3, 0, 0, 5), of(api.ErrLong, 3, 0, 0, 5, 1, 1), of(api.ErrShort, 4, 0, 0, 5), of(api.ErrLong, 4, 0, 0, 5, 1, 1),
		of(api.ErrShort, 5), of(api.ErrShort, 5, 7, 0, 1, 0, 5), of(api.ErrShort, 5, 7, 0, 1, 0, 5, 0, 1), of(api.ErrShort, 6), of(api.ErrLong, 6, 7, 7), of(api.ErrShort, 7), of(api.ErrLong, 7, 7, 7),
		of(api.ErrShort, 8, 0), of(api.ErrShort, 8, 0, 0, 1),
		// by Check
		is(api.ErrAccount, deposit(2, 2, 0)), is(api.ErrAccount, deposit(-1, 0, 1)), is(api.ErrAsset, deposit(1, 2, 0)), is(api.ErrAsset, deposit(1, -1, 1)), is(api.ErrAmount, deposit(1, 1, 0)), is(api.ErrAmount, deposit(1, 1, -most)),
		is(api.ErrAccount, withdraw(2, 0, 1)), is(api.ErrAsset, withdraw(0, 2, 1)), is(api.ErrAmount, withdraw(0, 0, 0)),
		is(api.ErrAccount, mark(2, 0, 1, 1)), is(api.ErrMark, mark(0, 0, 1, 0)), is(api.ErrMark, mark(0, 0, 1, 65537)), is(api.ErrMark, unmark(0, 0, 1, 0)), is(api.ErrAmount, unmark(0, 0, 0, 0)),
		is(api.ErrArg, submit(0)), is(api.ErrArg, submit(1<<40+1, leg(0, 1, 0, 1, 0))), is(api.ErrShort, submit(7)), is(api.ErrMany, submit(7, many...)), is(api.ErrAccount, submit(7, leg(2, 0, 0, 1, 0))),
		is(api.ErrAccount, submit(7, leg(0, 2, 0, 1, 0))), is(api.ErrSame, submit(7, leg(1, 1, 9, 1, 0))), is(api.ErrAsset, submit(7, leg(0, 1, 2, 0, 0))), is(api.ErrAmount, submit(7, leg(0, 1, 0, 0, -1))),
		is(api.ErrMark, submit(7, leg(0, 1, 0, 1, -1))), is(api.ErrMark, submit(7, leg(0, 1, 0, 1, 0), leg(0, 1, 0, 1, 65537))),
		is(api.ErrArg, cancel(0)), is(api.ErrArg, cancel(1<<40+1)), is(api.ErrArg, status(-7)), is(api.ErrArg, status(0)),
		is(api.ErrMany, snapshot(wide...)), is(api.ErrAccount, snapshot(0, 0, 2, 2)), is(api.ErrAsset, snapshot(0, 0, 1, 2)),
	}
}

// TestWrongRows: each alone, and all behind one another: Invoked and Returned are told, there is no number, and nothing is held.
func TestWrongRows(t *testing.T) {
	for _, x := range wrongRows() {
		check(t, alone("a wrong row", small(0), 2, api.State{}, x))
	}
	check(t, alone("all wrong rows", small(0), 1+len(wrongRows()), api.State{}, wrongRows()...))
}

// TestOpsOfWrongRows: Op is zero where Decode refuses the row, and what it tells where Check refuses it; so it is of one that hasn't returned.
func TestOpsOfWrongRows(t *testing.T) {
	for _, x := range wrongRows() {
		o, err := guard.Decode(x.row)
		if err != nil && !proof.SameOp(o, api.Op{}) || err == nil && !slices.Equal(proof.Row(o), x.row) {
			t.Fatalf("%v is told by %+v", x.row, o)
		}
		for n := range 3 {
			r := game{small(0), sessionsOf(rows(x.row)), zeros(n)}.play(t)
			if n > 0 && (len(r.Calls) != 1 || !proof.SameOp(r.Calls[0].Op, o) || r.Calls[0].Invoked != 1 || (r.Calls[0].Returned > 0) != (n == 2)) || n == 0 && len(r.Calls) > 0 {
				t.Errorf("%v, %d picks: %+v", x.row, n, r.Calls)
			}
		}
	}
}

// TestNoOperations: no sessions, sessions without operations, no workers, no picks.
func TestNoOperations(t *testing.T) {
	three := make([][][]int64, 3)
	check(t,
		told{"nothing at all", small(0), nil, nil, api.Result{Quiet: true}},
		told{"nothing, and picks", small(0), nil, zeros(9), api.Result{Quiet: true}},
		told{"sessions without operations", small(0), three, []int{2, -1, 7}, api.Result{Quiet: true, Turns: 3}},
		told{"sessions without operations, cut", small(0), three, zeros(2), api.Result{Turns: 2}},
		told{"sessions without operations, no picks", small(0), three, nil, api.Result{}},
		told{"an operation, no picks", small(0), sessionsOf(rows(deposit(0, 0, 5))), nil, api.Result{}},
		told{"workers, no picks", small(8), nil, nil, api.Result{}},
		told{"workers alone", small(8), nil, zeros(16), api.Result{Quiet: true, Turns: 16}},
		told{"workers alone, cut", small(8), nil, zeros(15), api.Result{Turns: 15}},
		told{"sessions without operations, and workers", small(2), three, zeros(100), api.Result{Quiet: true, Turns: 7}},
	)
}

// TestPositions: Deposit, Withdraw, Mark, Unmark, done and refused. What is refused has a number too.
func TestPositions(t *testing.T) {
	check(t,
		alone("deposits", small(0), 26, state(held(holds(0, 1, pos(most)), holds(1, 0, pos(3)))),
			step{deposit(0, 1, most-1), 1, said(0)}, step{deposit(0, 1, 2), 2, no(api.ErrOver)}, step{deposit(0, 1, 1), 3, said(0)}, step{deposit(0, 1, 1), 4, no(api.ErrOver)}, step{deposit(1, 0, 3), 5, said(0)}),
		alone("withdrawals", small(0), 26, state(held(holds(0, 0, pos(2)))),
			step{withdraw(0, 0, 1), 1, no(api.ErrCover)}, step{deposit(0, 0, 5), 2, said(0)}, step{withdraw(0, 0, 6), 3, no(api.ErrCover)}, step{withdraw(0, 0, 3), 4, said(0)}, step{withdraw(1, 0, 1), 5, no(api.ErrCover)}),
		alone("nothing is left", small(0), 11, api.State{}, step{deposit(1, 1, 5), 1, said(0)}, step{withdraw(1, 1, 5), 2, said(0)}),
		alone("marks", small(0), 34, state(held(holds(1, 1, pos(0, 3, 1, 9, 4)))),
			step{mark(1, 1, 1, 9), 1, no(api.ErrCover)}, step{deposit(1, 1, 5), 2, said(0)}, step{mark(1, 1, 4, 9), 3, said(0)}, step{mark(1, 1, 2, 3), 4, no(api.ErrCover)}, step{mark(1, 1, 1, 3), 5, said(0)},
			step{withdraw(1, 1, 1), 6, no(api.ErrCover)}, step{snapshot(1, 1, 1, 0), 6, shows(pos(0, 3, 1, 9, 4), pos(0))}),
		alone("a ninth mark", small(0), 56, state(held(holds(0, 0, pos(1, 1, 1, 2, 1, 3, 1, 4, 1, 5, 1, 6, 1, 7, 1, 8, 2)))),
			step{deposit(0, 0, 10), 1, said(0)}, step{mark(0, 0, 1, 1), 2, said(0)}, step{mark(0, 0, 1, 2), 3, said(0)}, step{mark(0, 0, 1, 3), 4, said(0)}, step{mark(0, 0, 1, 4), 5, said(0)},
			step{mark(0, 0, 1, 5), 6, said(0)}, step{mark(0, 0, 1, 6), 7, said(0)}, step{mark(0, 0, 1, 7), 8, said(0)}, step{mark(0, 0, 1, 8), 9, said(0)}, step{mark(0, 0, 1, 9), 10, no(api.ErrMany)}, step{mark(0, 0, 1, 8), 11, said(0)}),
		alone("unmarks", small(0), 32, state(held(holds(0, 0, pos(5)))),
			step{unmark(0, 0, 1, 7), 1, no(api.ErrMark)}, step{deposit(0, 0, 5), 2, said(0)}, step{mark(0, 0, 3, 7), 3, said(0)}, step{unmark(0, 0, 1, 8), 4, no(api.ErrMark)}, step{unmark(0, 0, 4, 7), 5, no(api.ErrCover)},
			step{unmark(0, 0, 3, 7), 6, said(0)}, step{unmark(0, 0, 0, 7), 0, no(api.ErrAmount)}),
	)
}

// TestSubmits: answered Settled, Pending, and refused; a Submit when the queue is full.
func TestSubmits(t *testing.T) {
	swap := []api.Leg{leg(0, 1, 0, 5, 0), leg(1, 0, 1, 70, 0)}
	one := leg(0, 1, 0, 1, 0)
	c := small(0)
	c.Queue = 1
	none := small(0)
	none.Queue = 0
	check(t,
		alone("settled at once", small(0), 16, state(held(holds(0, 1, pos(70)), holds(1, 0, pos(5))), record(7, api.Settled, swap...)),
			step{deposit(0, 0, 5), 1, said(0)}, step{deposit(1, 1, 70), 2, said(0)}, step{submit(7, swap...), 3, said(api.Settled)}),
		alone("one side is missing", small(0), 11, state(held(holds(0, 0, pos(5))), record(7, api.Pending, swap...)),
			step{deposit(0, 0, 5), 1, said(0)}, step{submit(7, swap...), 2, said(api.Pending)}),
		alone("the id is there", small(0), 25, state(held(holds(1, 0, pos(1))), record(7, api.Pending, swap...), record(1<<40, api.Settled, one)),
			step{submit(7, swap...), 1, said(api.Pending)}, step{submit(7, one), 2, no(api.ErrTwice)}, step{deposit(0, 0, 1), 3, said(0)}, step{submit(1<<40, one), 4, said(api.Settled)},
			step{status(1 << 40), 5, said(api.Settled)}),
		alone("from a mark", small(0), 21, state(held(holds(0, 0, pos(1)), holds(1, 0, pos(4))), record(7, api.Settled, leg(0, 1, 0, 4, 9))),
			step{deposit(0, 0, 5), 1, said(0)}, step{mark(0, 0, 3, 9), 2, said(0)}, step{submit(7, leg(0, 1, 0, 4, 9)), 3, said(api.Settled)}, step{submit(7, leg(0, 1, 0, 4, 9)), 4, no(api.ErrTwice)}),
		alone("above the greatest amount", small(0), 16, state(held(holds(0, 0, pos(1)), holds(1, 0, pos(most)))),
			step{deposit(1, 0, most), 1, said(0)}, step{deposit(0, 0, 1), 2, said(0)}, step{submit(7, one), 3, no(api.ErrOver)}),
		alone("the queue is full", c, 36, state(held(holds(1, 1, pos(2))), record(6, api.Pending, one), record(7, api.Cancelled, one), record(9, api.Settled, leg(0, 1, 1, 2, 0))),
			step{submit(7, one), 1, said(api.Pending)}, step{submit(6, one), 2, no(api.ErrFull)}, step{submit(7, one), 3, no(api.ErrTwice)}, step{deposit(0, 1, 2), 4, said(0)},
			step{submit(9, leg(0, 1, 1, 2, 0)), 5, said(api.Settled)}, step{cancel(7), 6, said(api.Cancelled)}, step{submit(6, one), 7, said(api.Pending)}),
		alone("no room at all", none, 16, state(held(holds(1, 0, pos(1))), record(6, api.Settled, one)),
			step{submit(7, one), 1, no(api.ErrFull)}, step{deposit(0, 0, 1), 2, said(0)}, step{submit(6, one), 3, said(api.Settled)}),
		alone("in the order in which they came", small(0), 21, state(nil, record(9, api.Pending, one), record(3, api.Pending, leg(1, 0, 0, 1, 0))),
			step{submit(5, one), 1, said(api.Pending)}, step{submit(9, one), 2, said(api.Pending)}, step{cancel(5), 3, said(api.Cancelled)}, step{submit(3, leg(1, 0, 0, 1, 0)), 4, said(api.Pending)}).with(record(5, api.Cancelled, one)),
	)
}

// with is a run whose state has one more record.
func (x told) with(i api.Instruction) told {
	l := append(slices.Clone(x.want.State.Instructions), i)
	slices.SortFunc(l, func(a, b api.Instruction) int { return a.Id - b.Id })
	x.want.State.Instructions = l
	return x
}

// TestCancelsAndStatus: of records of each status, and of none.
func TestCancelsAndStatus(t *testing.T) {
	one := leg(0, 1, 0, 1, 0)
	check(t,
		alone("a cancel of none", small(0), 6, api.State{}, step{cancel(7), 1, no(api.ErrLost)}),
		alone("a status of none", small(0), 5, api.State{}, step{status(7), 1, no(api.ErrLost)}),
		alone("of a pending one", small(0), 29, state(nil, record(7, api.Cancelled, one)),
			step{submit(7, one), 1, said(api.Pending)}, step{status(7), 2, said(api.Pending)}, step{cancel(7), 3, said(api.Cancelled)}, step{status(7), 4, said(api.Cancelled)}, step{cancel(7), 5, no(api.ErrFinal)},
			step{submit(7, one), 6, no(api.ErrTwice)}),
		alone("of a settled one", small(0), 20, state(held(holds(1, 0, pos(1))), record(7, api.Settled, one)),
			step{deposit(0, 0, 1), 1, said(0)}, step{submit(7, one), 2, said(api.Settled)}, step{status(7), 3, said(api.Settled)}, step{cancel(7), 4, no(api.ErrFinal)}),
		alone("the greatest id", small(0), 10, api.State{}, step{status(1 << 40), 1, no(api.ErrLost)}, step{cancel(1 << 40), 2, no(api.ErrLost)}),
	)
}

// TestSnapshots: their number is the one that was read, 0 too; pairs as they stand there.
func TestSnapshots(t *testing.T) {
	sixtyFour := slices.Repeat([]int{1, 1}, 64)
	five := slices.Repeat([]api.Position{pos(5)}, 64)
	check(t,
		alone("of nothing", small(0), 2, api.State{}, step{snapshot(), 0, api.Answer{}}),
		alone("where nothing is held", small(0), 4, api.State{}, step{snapshot(0, 0, 1, 1), 0, shows(pos(0), pos(0))}),
		alone("behind others", small(0), 20, state(held(holds(0, 0, pos(3)), holds(1, 1, pos(2, 7, 2)))),
			step{deposit(0, 0, 3), 1, said(0)}, step{snapshot(), 1, api.Answer{}}, step{deposit(1, 1, 4), 2, said(0)}, step{mark(1, 1, 2, 7), 3, said(0)},
			step{snapshot(1, 1, 0, 0), 3, shows(pos(2, 7, 2), pos(3))}),
		alone("a pair twice", small(0), 15, state(held(holds(1, 1, pos(4, 7, 1)))),
			step{deposit(1, 1, 5), 1, said(0)}, step{mark(1, 1, 1, 7), 2, said(0)}, step{snapshot(1, 1, 0, 1, 1, 1), 2, shows(pos(4, 7, 1), pos(0), pos(4, 7, 1))}),
		alone("the most pairs", small(0), 71, state(held(holds(1, 1, pos(5)))), step{deposit(1, 1, 5), 1, said(0)}, step{snapshot(sixtyFour...), 1, shows(five...)}),
		alone("what is refused has a number, and changes nothing", small(0), 8, api.State{}, step{withdraw(0, 0, 1), 1, no(api.ErrCover)}, step{snapshot(0, 0), 1, shows(pos(0))}),
	)
}

// TestShards: each shard of an operation ends two turns more; what is answered stays.
func TestShards(t *testing.T) {
	a, b := lying(0, 3, 0), lying(2, 3, 0)
	c := api.Config{Accounts: 100, Assets: 1, Queue: 2, Shards: 3}
	id := recorded(1, 3, 1)
	other := lying(0, 3, a+1)
	check(t,
		alone("one shard", c, 6, state(held(holds(a, 0, pos(5)))), step{deposit(a, 0, 5), 1, said(0)}),
		alone("all three shards", c, 10, state(nil, record(id, api.Pending, leg(a, b, 0, 5, 0))), step{submit(id, leg(a, b, 0, 5, 0)), 1, said(api.Pending)}),
		alone("two of three", c, 8, state(nil, record(id, api.Pending, leg(a, other, 0, 5, 0))), step{submit(id, leg(a, other, 0, 5, 0)), 1, said(api.Pending)}),
		alone("a status", c, 5, api.State{}, step{status(id), 1, no(api.ErrLost)}),
		alone("a snapshot", c, 4, api.State{}, step{snapshot(a, 0, b, 0), 0, shows(pos(0), pos(0))}),
	)
}
