package engine_test

import (
	"testing"

	"custody/api"
	"custody/engine"
)

// examples are the chapter's, in its order; each pick is 0, and there are a hundred.
func examples() []told {
	waits := sessionsOf(rows(submit(7, leg(0, 1, 0, 5, 0)), deposit(0, 0, 5), status(7)))
	lines := []line{{1, 2, 1, said(api.Pending)}, {3, 4, 2, said(0)}, {5, 6, 3, said(api.Pending)}}
	l := []told{
		alone("a deposit and a snapshot", small(0), 8, state(held(holds(0, 0, pos(5)))),
			step{deposit(0, 0, 5), 1, said(0)}, step{snapshot(0, 0), 1, shows(pos(5))}),
		quiet("an instruction that waits", small(0), waits, 15, state(held(holds(0, 0, pos(5))), record(7, api.Pending, leg(0, 1, 0, 5, 0))), lines),
		quiet("the same with a worker", small(1), waits, 22, state(held(holds(1, 0, pos(5))), record(7, api.Settled, leg(0, 1, 0, 5, 0))), lines).
			settled(api.Settle{Id: 7, Number: 4, At: 7}),
		alone("refused rows", small(0), 3, api.State{}, step{[]int64{9}, 0, no(api.ErrCode)}, step{deposit(0, 0, 0), 0, no(api.ErrAmount)}),
		quiet("a worker alone", small(1), nil, 2, api.State{}),
	}
	for i := range l {
		l[i].picks = zeros(100)
	}
	return l
}

func TestExamples(t *testing.T) { check(t, examples()...) }

// firstByTurns is what the chapter's first example comes to behind each number of turns, from 0 on, by what the chapter tells turn by turn.
func firstByTurns() []api.Result {
	a := examples()[0]
	by := func(turns int, lines ...line) api.Result {
		return api.Result{Calls: calls(a.sessions, lines), Turns: turns}
	}
	whole := line{1, 2, 1, said(0)}
	return []api.Result{
		by(0),
		by(1, line{invoked: 1}),
		by(2, line{invoked: 1}),
		by(3, line{invoked: 1}),
		by(4, line{invoked: 1, number: 1}),
		by(5, line{invoked: 1, number: 1}),
		by(6, whole, line{invoked: 3}),
		by(7, whole, line{invoked: 3}),
		a.want,
		a.want,
	}
}

func TestFirstExampleTurnByTurn(t *testing.T) {
	x := examples()[0]
	for n, want := range firstByTurns() {
		x.picks, x.want = zeros(n), want
		check(t, x)
	}
}

// TestWholeExample is the sixth of the document's examples of the whole, as far as it is this layer's: a row is run by one session.
func TestWholeExample(t *testing.T) {
	c := api.Config{Accounts: 4, Assets: 2, Queue: 3, Shards: 1}
	x := alone("a row", c, 6, state(held(holds(0, 1, pos(10)))), step{deposit(0, 1, 10), 1, said(0)})
	x.picks = zeros(100)
	check(t, x)
}

// TestReadmeExample is the one of README.md.
func TestReadmeExample(t *testing.T) {
	setup := api.Config{Accounts: 4, Assets: 2, Queue: 3, Shards: 8, Workers: 2}
	sessions := [][][]int64{
		{{5, 7, 0, 2, 1, 10, 0, 3, 1, 0, 500, 0}, {7, 7}},
		{{1, 0, 1, 10}, {1, 3, 0, 500}, {8, 1, 0, 3, 0}},
	}
	enough := engine.Bound(setup, sessions)
	if enough != 191 {
		t.Errorf("Bound is %d", enough)
	}
	trade := []api.Leg{leg(0, 2, 1, 10, 0), leg(3, 1, 0, 500, 0)}
	check(t, told{"README.md", setup, sessions, make([]int, enough), api.Result{
		Calls: calls(sessions, []line{{1, 2, 1, said(api.Pending)}, {3, 4, 2, said(api.Pending)}},
			[]line{{5, 6, 3, said(0)}, {7, 8, 4, said(0)}, {9, 10, 4, shows(pos(0), pos(500))}}),
		Settles: []api.Settle{{Id: 7, Number: 5, At: 11}},
		State:   state(held(holds(1, 0, pos(500)), holds(2, 1, pos(10))), record(7, api.Settled, trade...)), Quiet: true, Turns: 41}})
}
