package engine_test

import (
	"testing"

	"custody/api"
)

// P20.3, by hand. In one shard, the mutex of which is 0, that of the queue is 1; a settlement ends five turns (it looks, takes the shard, takes the queue, gets its number, lays), and a look in vain two.

// three is a ledger of three accounts in one shard.
func three(workers int) api.Config {
	return api.Config{Accounts: 3, Assets: 1, Queue: 4, Shards: 1, Workers: workers}
}

// TestNothingIsReady: workers look once, and are parked.
func TestNothingIsReady(t *testing.T) {
	covered := sessionsOf(rows(deposit(0, 0, 5), submit(7, leg(0, 1, 0, 5, 0))))
	done := []line{{1, 2, 1, said(0)}, {3, 4, 2, said(api.Settled)}}
	waits := sessionsOf(rows(submit(7, leg(0, 1, 0, 5, 0)), deposit(2, 0, 5)))
	idle := []line{{1, 2, 1, said(api.Pending)}, {3, 4, 2, said(0)}}
	check(t,
		quiet("what settles at once is no work", three(2), covered, 15, state(held(holds(1, 0, pos(5))), record(7, api.Settled, leg(0, 1, 0, 5, 0))), done),
		quiet("a change elsewhere is no work", three(2), waits, 15, state(held(holds(2, 0, pos(5))), record(7, api.Pending, leg(0, 1, 0, 5, 0))), idle),
		// The worker looks first, and is parked; nobody wakes it.
		told{"first the worker", three(1), waits, append(turns(1, 2), zeros(50)...), api.Result{
			Calls: calls(waits, idle), State: state(held(holds(2, 0, pos(5))), record(7, api.Pending, leg(0, 1, 0, 5, 0))), Quiet: true, Turns: 13}},
	)
}

// TestSettles: a worker that is parked is waked by a deposit; what one settlement brings makes another one ready.
func TestSettles(t *testing.T) {
	one, two := leg(0, 1, 0, 5, 0), leg(1, 2, 0, 5, 0)
	woken := sessionsOf(rows(submit(7, one), deposit(0, 0, 5)))
	pending := line{1, 2, 1, said(api.Pending)}
	rowOfTwo := sessionsOf(rows(submit(7, one), submit(8, two), deposit(0, 0, 5)))
	check(t,
		told{"a parked worker", three(1), woken, append(turns(1, 2), zeros(50)...), api.Result{
			Calls: calls(woken, []line{pending, {3, 4, 2, said(0)}}), Settles: []api.Settle{{Id: 7, Number: 3, At: 5}},
			State: state(held(holds(1, 0, pos(5))), record(7, api.Settled, one)), Quiet: true, Turns: 20}},
		quiet("one behind the other", three(1), rowOfTwo, 28, state(held(holds(2, 0, pos(5))), record(7, api.Settled, one), record(8, api.Settled, two)),
			[]line{pending, {3, 4, 2, said(api.Pending)}, {5, 6, 3, said(0)}}).settled(api.Settle{Id: 7, Number: 4, At: 7}, api.Settle{Id: 8, Number: 5, At: 8}),
	)
}

// TestNotCovered: what still lacks cover is given back, and waits for the next change.
func TestNotCovered(t *testing.T) {
	one := leg(0, 1, 0, 5, 0)
	l := sessionsOf(rows(submit(7, one), deposit(0, 0, 4), deposit(2, 0, 9)))
	lines := []line{{1, 2, 1, said(api.Pending)}, {3, 4, 2, said(0)}, {5, 6, 3, said(0)}}
	// It looks, takes the shard, takes the queue's mutex; gives all back, looks again, and is parked.
	check(t, quiet("given back", three(1), l, 21, state(held(holds(0, 0, pos(4)), holds(2, 0, pos(9))), record(7, api.Pending, one)), lines)) // 16 and 5
}

// TestTouchedMeanwhile: what is touched while a worker has it, and still lacks cover, is looked at again at once; what is not touched then waits.
func TestTouchedMeanwhile(t *testing.T) {
	one := leg(0, 1, 0, 5, 0)
	l := sessionsOf(rows(submit(7, one), deposit(0, 0, 2), deposit(0, 0, 1), deposit(0, 0, 2)))
	first := []line{{1, 2, 1, said(api.Pending)}, {3, 4, 2, said(0)}}
	second := append(first, line{5, 6, 3, said(0)})
	// The second deposit has the shard; the worker takes 7, and waits for the shard.
	waits := turns(0, 12, 1, 2)
	// The second deposit touches 7, and returns; the worker has the shard then.
	touched := append(waits, turns(0, 4)...)
	// The worker gives 7 back, which is ready; takes it again, and gives it back, idle; then it is parked.
	parked := append(touched, turns(1, 6)...)
	check(t,
		told{"it waits for the shard", three(1), l, waits, cutAt(14, 1, calls(l, append(first, line{invoked: 5})))},
		told{"it has the shard", three(1), l, touched, cutAt(18, 0, calls(l, append(second, line{invoked: 7})))},
		told{"it is parked", three(1), l, parked, cutAt(24, 0, calls(l, append(second, line{invoked: 7})))},
		told{"it settles", three(1), l, append(parked, zeros(50)...), api.Result{
			Calls: calls(l, append(second, line{7, 8, 4, said(0)})), Settles: []api.Settle{{Id: 7, Number: 5, At: 9}},
			State: state(held(holds(1, 0, pos(5))), record(7, api.Settled, one)), Quiet: true, Turns: 36}},
	)
}

// TestTouchedAndCovered: what lacked cover when it was taken settles, if it is covered when the worker has its shards.
func TestTouchedAndCovered(t *testing.T) {
	one := leg(0, 1, 0, 5, 0)
	l := sessionsOf(rows(submit(7, one), deposit(0, 0, 2), deposit(0, 0, 3)))
	check(t, told{"covered meanwhile", three(1), l, append(turns(0, 12, 1, 2), zeros(50)...), api.Result{
		Calls: calls(l, []line{{1, 2, 1, said(api.Pending)}, {3, 4, 2, said(0)}, {5, 6, 3, said(0)}}), Settles: []api.Settle{{Id: 7, Number: 4, At: 7}},
		State: state(held(holds(1, 0, pos(5))), record(7, api.Settled, one)), Quiet: true, Turns: 23}}) // behind 18: it takes the queue's mutex, gets its number, lays, is done and looks again, is parked
}

// TestCancelledMeanwhile: a Cancel of one that a worker has taken; and one that comes when the worker has the shard already.
func TestCancelledMeanwhile(t *testing.T) {
	one := leg(0, 1, 0, 5, 0)
	l := sessionsOf(rows(submit(7, one), deposit(0, 0, 5), cancel(7)))
	first := []line{{1, 2, 1, said(api.Pending)}, {3, 4, 2, said(0)}}
	check(t,
		told{"the cancel has the shard", three(1), l, append(turns(0, 12, 1, 2), zeros(50)...), api.Result{
			Calls: calls(l, append(first, line{5, 6, 3, said(api.Cancelled)})), State: state(held(holds(0, 0, pos(5))), record(7, api.Cancelled, one)), Quiet: true, Turns: 21}},
		told{"the worker has the shard", three(1), l, append(turns(0, 11, 1, 2), zeros(50)...), api.Result{
			Calls: calls(l, append(first, line{5, 7, 4, no(api.ErrFinal)})), Settles: []api.Settle{{Id: 7, Number: 3, At: 6}},
			State: state(held(holds(1, 0, pos(5))), record(7, api.Settled, one)), Quiet: true, Turns: 23}},
	)
}

// TestTwoWorkers: each settles one, in shards of their own; the one with the greater number lays first, and is told to have settled behind the other.
func TestTwoWorkers(t *testing.T) {
	a, b := lying(0, 3, 0), lying(2, 3, 0)
	one, two := leg(a, lying(0, 3, a+1), 0, 5, 0), leg(b, lying(2, 3, b+1), 0, 6, 0)
	first, second := recorded(0, 3, 1), recorded(2, 3, 1)
	l := sessionsOf(rows(submit(first, one), submit(second, two), deposit(a, 0, 5), deposit(b, 0, 6)))
	lines := []line{{1, 2, 1, said(api.Pending)}, {3, 4, 2, said(api.Pending)}, {5, 6, 3, said(0)}, {7, 8, 4, said(0)}}
	picks := turns(0, 23, 1, 4) // the worker 0 has taken the first and its shard; the worker 1 the second, and has its number
	laid := append(picks, turns(0, 4)...)
	settled := func(at0, at1 int) []api.Settle {
		return []api.Settle{{Worker: 1, Id: second, Number: 5, At: at1}, {Worker: 0, Id: first, Number: 6, At: at0}}
	}
	check(t,
		told{"one has its number", wide(2), l, picks, api.Result{Calls: calls(l, lines), Settles: settled(0, 0)[:1], Turns: 27}},
		told{"the other one is done, and waits", wide(2), l, laid, api.Result{Calls: calls(l, lines), Settles: settled(0, 0), Turns: 31}},
		told{"both", wide(2), l, append(laid, zeros(50)...), api.Result{Calls: calls(l, lines), Settles: settled(10, 9), Quiet: true, Turns: 36,
			State: state(ordered(holds(one.To, 0, pos(5)), holds(two.To, 0, pos(6))), record(first, api.Settled, one), record(second, api.Settled, two))}},
	)
}

// ordered are two balances by rising accounts.
func ordered(a, b api.Balance) []api.Balance {
	if a.Key.Account > b.Key.Account {
		a, b = b, a
	}
	return held(a, b)
}

// TestTwoWorkersInOneShard: the second one finds the same queue, takes the next, and waits for the shard.
func TestTwoWorkersInOneShard(t *testing.T) {
	one, two := leg(0, 1, 0, 5, 0), leg(0, 2, 0, 5, 0)
	l := sessionsOf(rows(submit(7, one), submit(3, two), deposit(0, 0, 5)))
	lines := []line{{1, 2, 1, said(api.Pending)}, {3, 4, 2, said(api.Pending)}, {5, 6, 3, said(0)}}
	// Both are ready: worker 0 takes 7, which came first, and the shard; worker 1 takes 3, and waits for it. There is cover for one.
	picks := turns(0, 16, 0, 2, 1, 2)
	check(t,
		told{"one waits", three(2), l, picks, cutAt(20, 1, calls(l, lines))},
		told{"the first one settles", three(2), l, append(picks, zeros(50)...), api.Result{
			Calls: calls(l, lines), Settles: []api.Settle{{Id: 7, Number: 4, At: 7}}, State: state(held(holds(1, 0, pos(5))), record(3, api.Pending, two), record(7, api.Settled, one)), Quiet: true, Turns: turnsOfTwo}},
	)
}

// turnsOfTwo: behind the 20 turns that both have taken, worker 0 takes the queue's mutex, gets its number and touches 3, lays, is done and takes the queue's mutex (24); it finds nothing, and is parked (25).
// Worker 1 takes the queue's mutex, gives 3 back, which is ready again, wakes worker 0, and takes the queue's mutex (27). Worker 0 waits for that (28); worker 1 takes 3 again and the shard (29).
// Worker 0 finds nothing, and is parked (30); worker 1 takes the queue's mutex, gives 3 back and takes the mutex again, finds nothing, and is parked (33).
const turnsOfTwo = 33
