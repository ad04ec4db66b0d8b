package engine_test

import (
	"testing"

	"custody/api"
)

// P20.4: the chapter's third example, an instruction that a worker settles, cut at every turn: what was invoked and has not returned, a settlement with a number and no At, Quiet, Turns, State.
func TestCutAtEveryTurn(t *testing.T) {
	x := examples()[2]
	submitted, deposited, asked := line{1, 2, 1, said(api.Pending)}, line{3, 4, 2, said(0)}, line{5, 6, 3, said(api.Pending)}
	whole := []line{submitted, deposited, asked}
	type part struct {
		upTo    int // turns
		lines   []line
		settles []api.Settle
	}
	parts := []part{
		{0, nil, nil},
		{3, []line{{invoked: 1}}, nil}, // it takes the shard, and the queue's mutex
		{5, []line{{invoked: 1, number: 1}}, nil},
		{8, []line{submitted, {invoked: 3}}, nil},
		{10, []line{submitted, {invoked: 3, number: 2}}, nil},
		{12, []line{submitted, deposited, {invoked: 5}}, nil}, // a Status takes the shard alone
		{14, []line{submitted, deposited, {invoked: 5, number: 3}}, nil},
		{18, whole, nil}, // the worker looks, takes the shard, and the queue's mutex
		{20, whole, []api.Settle{{Id: 7, Number: 4}}},
		{21, whole, []api.Settle{{Id: 7, Number: 4, At: 7}}}, // it looks again
	}
	n := 0
	for _, p := range parts {
		for ; n <= p.upTo; n++ {
			check(t, told{"cut", x.config, x.sessions, zeros(n), api.Result{Calls: calls(x.sessions, p.lines), Settles: p.settles, Turns: n}})
		}
	}
	for ; n < 30; n++ {
		x.picks = zeros(n)
		check(t, x)
	}
}
