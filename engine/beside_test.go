package engine_test

import (
	"testing"

	"custody/api"
)

// Sessions beside one another. The ledger has three shards, whose mutexes are 0, 1, 2; that of the queue is 3.

// wide is a ledger of many accounts in these shards.
func wide(workers int) api.Config {
	return api.Config{Accounts: 100, Assets: 1, Queue: 2, Shards: 3, Workers: workers}
}

// cutAt is the result of a run that was cut.
func cutAt(turns, stuck int, l []api.Call) api.Result {
	return api.Result{Calls: l, Turns: turns, Stuck: stuck}
}

// P20.2: a Status doesn't ask for the queue's mutex; a Cancel does. The deposit has it, when the two others come.
func TestStatusDoesNotAskForTheQueue(t *testing.T) {
	a, b, c := lying(0, 3, 0), recorded(1, 3, 1), recorded(2, 3, 1)
	sessions := sessionsOf(rows(deposit(a, 0, 5)), rows(status(b)), rows(cancel(c)))
	picks := turns(0, 3, 1, 5, 1, 3)
	lost := line{2, 3, 1, no(api.ErrLost)}
	check(t,
		told{"the status has returned, the cancel waits", wide(0), sessions, picks, cutAt(11, 1, calls(sessions, []line{{invoked: 1}}, []line{lost}, []line{{invoked: 4}}))},
		// The deposit gets its number, lays, is done, and returns; the cancel has the mutex by then.
		told{"then the cancel goes on", wide(0), sessions, append(picks, turns(0, 3, 0, 3)...), api.Result{
			Calls: calls(sessions, []line{{1, 5, 2, said(0)}}, []line{lost}, []line{{4, 6, 3, no(api.ErrLost)}}), State: state(held(holds(a, 0, pos(5)))), Quiet: true, Turns: 17}},
	)
}

// P20.2: a Snapshot beside a transfer that has laid down one of its legs reads at the number ahead of that; and what it has still to read is not forgotten.
func TestSnapshotBesideTransfer(t *testing.T) {
	a, b, id := lying(0, 3, 0), lying(2, 3, 0), recorded(1, 3, 1)
	move := leg(a, b, 0, 5, 0)
	sessions := sessionsOf(rows(deposit(a, 0, 5), submit(id, move)), rows(snapshot(a, 0, b, 0), snapshot(a, 0, b, 0)))
	deposited, submitted := line{1, 2, 1, said(0)}, line{3, 5, 2, said(api.Settled)}
	picks := turns(0, 12, 1, 2, 0, 3) // the account a is laid down; the Snapshot reads it; the transfer ends
	check(t,
		told{"cut between the two that it reads", wide(0), sessions, picks[:14], cutAt(14, 0, calls(sessions, []line{deposited, {invoked: 3, number: 2}}, []line{{invoked: 4}}))},
		told{"cut when the transfer has returned", wide(0), sessions, picks, cutAt(17, 0, calls(sessions, []line{deposited, submitted}, []line{{invoked: 4}}))},
		told{"both", wide(0), sessions, append(picks, zeros(9)...), api.Result{
			Calls: calls(sessions, []line{deposited, submitted}, []line{{4, 6, 1, shows(pos(5), pos(0))}, {7, 8, 2, shows(pos(0), pos(5))}}),
			State: state(held(holds(b, 0, pos(5))), record(id, api.Settled, move)), Quiet: true, Turns: 22}},
	)
}

// P20.2 and P20.4: who has laid all down returns when all lesser numbers are done too.
func TestReturnsBehindLesserNumbers(t *testing.T) {
	a, b := lying(0, 3, 0), lying(2, 3, 0)
	sessions := sessionsOf(rows(deposit(a, 0, 5)), rows(deposit(b, 0, 6)))
	picks := turns(0, 4, 1, 6) // the first has its number; the other one does all that it can
	check(t,
		told{"parked", wide(0), sessions, picks, cutAt(10, 0, calls(sessions, []line{{invoked: 1, number: 1}}, []line{{invoked: 2, number: 2}}))},
		told{"returned", wide(0), sessions, append(picks, 0, 0, 0), api.Result{
			Calls: calls(sessions, []line{{1, 3, 1, said(0)}}, []line{{2, 4, 2, said(0)}}), State: state(held(holds(a, 0, pos(5)), holds(b, 0, pos(6)))), Quiet: true, Turns: 13}},
	)
}

// P20.4: Stuck are those that wait for a mutex when the run is cut.
func TestStuck(t *testing.T) {
	sessions := sessionsOf(rows(deposit(0, 0, 1)), rows(deposit(0, 0, 2)), rows(deposit(0, 0, 3)))
	waits := func(n int) []line { return []line{{invoked: n}} }
	check(t,
		told{"none waits", small(0), sessions, turns(0, 2, 1, 1, 2, 1), cutAt(4, 0, calls(sessions, waits(1), waits(2), waits(3)))},
		told{"one waits", small(0), sessions, turns(0, 2, 1, 2, 1, 1), cutAt(5, 1, calls(sessions, waits(1), waits(2), waits(3)))},
		told{"two wait", small(0), sessions, turns(0, 2, 1, 2, 1, 2), cutAt(6, 2, calls(sessions, waits(1), waits(2), waits(3)))},
		told{"in the order in which they came", small(0), sessions, append(turns(0, 2, 2, 2, 1, 2), zeros(50)...), api.Result{
			Calls: calls(sessions, []line{{1, 4, 1, said(0)}}, []line{{3, 6, 3, said(0)}}, []line{{2, 5, 2, said(0)}}), State: state(held(holds(0, 0, pos(6)))), Quiet: true, Turns: 18}},
	)
}

// Two Submits of one id, and two for which there is room for one: the numbers say which was first.
func TestBesideInTheQueue(t *testing.T) {
	one := leg(0, 1, 0, 1, 0)
	same := sessionsOf(rows(submit(7, one)), rows(submit(7, one)))
	c := small(0)
	c.Queue = 1
	unlike := sessionsOf(rows(submit(7, one)), rows(submit(8, one)))
	check(t,
		told{"one id", small(0), same, append(turns(0, 1, 1, 2), zeros(20)...), api.Result{
			Calls: calls(same, []line{{1, 4, 2, no(api.ErrTwice)}}, []line{{2, 3, 1, said(api.Pending)}}), State: state(nil, record(7, api.Pending, one)), Quiet: true, Turns: 12}},
		told{"room for one", c, unlike, append(turns(0, 1, 1, 2), zeros(20)...), api.Result{
			Calls: calls(unlike, []line{{1, 4, 2, no(api.ErrFull)}}, []line{{2, 3, 1, said(api.Pending)}}), State: state(nil, record(8, api.Pending, one)), Quiet: true, Turns: 12}},
	)
}
