package audit_test

import (
	"slices"
	"testing"

	"custody/api"
	"custody/engine"
	"custody/proof"
)

// game is a run of chance: its configuration, and what it came to.
type game struct {
	c api.Config
	r api.Result
}

// played is a run of the engine, with enough picks or fewer.
func played(t *testing.T, d *proof.Dice, c api.Config, sessions [][][]int64) game {
	t.Helper()
	picks := d.Picks(min(engine.Bound(c, sessions), 5000))
	if d.Below(2) == 0 {
		picks = picks[:d.Below(min(len(picks), proof.Of(d, 30, 100, 1000))+1)]
	}
	r, err := engine.Run(c, sessions, picks)
	if err != nil {
		t.Fatalf("%+v, sessions %v: %v", c, sessions, err)
	}
	return game{c, r}
}

// shortRun is a run of few calls.
func shortRun(t *testing.T, d *proof.Dice) game {
	t.Helper()
	c := api.Config{Accounts: 3, Assets: 2, Queue: d.Below(4), Shards: 1 + d.Below(3), Workers: d.Below(3)}
	sessions := d.Sessions(4, 3, 2)
	for _, rows := range sessions {
		for i := range rows {
			if d.Below(3) > 0 {
				rows[i] = proof.Row(plainOp(d))
			}
		}
	}
	return played(t, d, c, sessions)
}

// plainOp is an operation of chance, most of them over one asset, so that much waits and much is settled.
func plainOp(d *proof.Dice) api.Op {
	account, qty := d.Below(3), int64(1+d.Below(3))
	next := leg(account, (account+1)%3, 0, qty, 0)
	return proof.Of(d, d.SmallOp(6), submit(1+d.Below(12), next), submit(1+d.Below(12), next), deposit(account, 0, qty), deposit(account, 0, qty), snapshot(0, 0, 1, 0, 2, 0))
}

// made is a result that is right, and that no engine came to: its calls are done by a book, each at a moment between its invocation and its return, and stand each in a session of its own, in any order.
func made(d *proof.Dice, events int) game {
	g := game{c: api.Config{Accounts: 3, Assets: 2, Queue: d.Below(4), Shards: 1}}
	b, number, over := proof.NewBook(), 0, true
	for moment := 40; moment < 40+10*events; moment += 10 {
		returned := proof.Of(d, 0, moment+1+d.Below(35), moment+1+d.Below(35), moment+1+d.Below(35))
		over = over && returned != 0
		if ready := b.Ready(); len(ready) > 0 && d.Below(2) == 0 {
			number++
			g.r.Settles = append(g.r.Settles, api.Settle{Id: proof.Of(d, ready...), Number: number, At: returned})
			b.Settle(g.r.Settles[len(g.r.Settles)-1].Id)
			continue
		}
		x := call(plainOp(d), moment-d.Below(35), returned, 0, api.Answer{})
		if d.Below(9) == 0 {
			x.Op.Account = 3
		}
		a := b.Do(g.c, x.Op, len(b.Queue) < g.c.Queue)
		if proof.Judge(g.c, x.Op) == api.OK && x.Op.Code != api.OpSnapshot {
			number++
			x.Number = number
		}
		if returned != 0 {
			x.Answer = a
		}
		if x.Op.Code == api.OpSnapshot && returned != 0 && a.Err == api.OK {
			x.Number = number
		}
		g.r.Calls = slices.Insert(g.r.Calls, d.Below(len(g.r.Calls)+1), x)
	}
	for i := range g.r.Calls {
		g.r.Calls[i].Session = i
	}
	if over && d.Below(3) > 0 {
		g.r.Quiet, g.r.State = true, b.State()
		if len(b.Ready()) == 0 {
			g.c.Workers = d.Below(9)
		}
	}
	return g
}

// otherAnswer is an answer that is another one.
func otherAnswer(d *proof.Dice, a api.Answer) api.Answer {
	out := a
	out.Positions = slices.Clone(a.Positions)
	switch n := d.Below(6); {
	case n == 0 && len(a.Positions) > 0:
		out.Positions[d.Below(len(a.Positions))].Avail += proof.Of[int64](d, 1, -1, 5)
	case n == 1 && len(a.Positions) > 0:
		at := d.Below(len(a.Positions))
		out.Positions[at].Marks = append(slices.Clone(a.Positions[at].Marks), api.Mark{Name: 65536, Qty: 1})
	case n == 2:
		out.Positions = append(out.Positions, api.Position{})
	case n == 3:
		out.Err = api.Errno((int(a.Err) + 1 + d.Below(24)) % 25)
	case n == 4:
		out = api.Answer{Err: api.Errno(1 + d.Below(24))}
	default:
		out.Status = (a.Status + 1 + d.Below(3)) % 4
	}
	if proof.SameAnswer(out, a) {
		out.Status++
	}
	return out
}

// clone is a result of its own, as far as its lists of calls, settlements, balances, instructions and ids go.
func clone(r api.Result) api.Result {
	r.Calls, r.Settles = slices.Clone(r.Calls), slices.Clone(r.Settles)
	r.State = api.State{Balances: slices.Clone(r.State.Balances), Instructions: slices.Clone(r.State.Instructions), Queue: slices.Clone(r.State.Queue)}
	return r
}

// twistCall makes something of a call another thing.
func twistCall(d *proof.Dice, l []api.Call) {
	i, j := d.Below(len(l)), d.Below(len(l))
	x, y := &l[i], &l[j]
	step := func(n int) int { return proof.Of(d, n+1, n-1, 0, d.Below(30), d.Number()) }
	switch d.Below(14) {
	case 0:
		x.Number = step(x.Number)
	case 1, 2, 3:
		x.Number, y.Number = y.Number, x.Number
	case 4:
		x.Session = step(x.Session)
	case 5:
		x.Index = step(x.Index)
	case 6:
		x.Invoked = step(x.Invoked)
	case 7:
		x.Returned = step(x.Returned)
	case 8:
		x.Invoked, x.Returned, y.Invoked, y.Returned = y.Invoked, y.Returned, x.Invoked, x.Returned
	case 9:
		x.Answer = otherAnswer(d, x.Answer)
	case 10:
		x.Answer = proof.Of(d, api.Answer{}, no(api.ErrShort), no(api.ErrLong), no(api.ErrCode), no(api.ErrAmount))
	case 11:
		x.Op = proof.Of(d, api.Op{}, d.SmallOp(3), snapshot(), y.Op)
	case 12:
		x.Answer, y.Answer = y.Answer, x.Answer
	case 13:
		x.Returned, x.Answer = 0, proof.Of(d, api.Answer{}, x.Answer)
	}
}

// twistSettle makes something of a settlement another thing.
func twistSettle(d *proof.Dice, r *api.Result) {
	x, y := &r.Settles[d.Below(len(r.Settles))], &r.Settles[d.Below(len(r.Settles))]
	switch d.Below(6) {
	case 0:
		x.Number = proof.Of(d, x.Number+1, x.Number-1, 0, d.Number())
	case 1:
		x.At = proof.Of(d, x.At-1, 0, 1, d.Below(30), d.Number())
	case 2:
		x.Id = proof.Of(d, x.Id+1, x.Id-1, d.Number())
	case 3:
		x.Number, y.Number = y.Number, x.Number
	case 4:
		x.Worker = d.Number()
	case 5:
		if len(r.Calls) > 0 {
			y := &r.Calls[d.Below(len(r.Calls))]
			x.Number, y.Number = y.Number, x.Number
		}
	}
}

// twistEnd makes something of what is told of the end another thing.
func twistEnd(d *proof.Dice, g *game) {
	s := &g.r.State
	switch d.Below(8) {
	case 0:
		g.r.Quiet = !g.r.Quiet
	case 1:
		g.r.Stuck = d.Below(3)
	case 2:
		g.c.Workers = d.Below(10)
	case 3:
		g.c.Queue = d.Below(5)
	case 4:
		s.Queue = append(s.Queue, 1)
	case 5:
		if len(s.Balances) > 0 {
			s.Balances[0].Position.Avail++
		}
	case 6:
		if len(s.Instructions) > 0 {
			s.Instructions[0].Record.Status = api.Cancelled
		}
	case 7:
		g.r.Turns = d.Number()
	}
}

// twisted is a game in which something is another thing.
func twisted(d *proof.Dice, g game) game {
	g.r = clone(g.r)
	switch n := d.Below(8); {
	case n < 5 && len(g.r.Calls) > 0:
		twistCall(d, g.r.Calls)
	case n < 7 && len(g.r.Settles) > 0:
		twistSettle(d, &g.r)
	default:
		twistEnd(d, &g)
	}
	return g
}
