package audit_test

import (
	"strconv"
	"testing"

	"custody/api"
	"custody/proof"
)

// TestStrays is point 7: what stands in no order was refused by itself, or hasn't returned.
func TestStrays(t *testing.T) {
	c := wide()
	filled := api.Op{Account: 1}
	many := proof.Snapshot(make([]int, 2*65)...)
	for _, x := range []struct {
		name string
		call api.Call
		no   api.Errno
	}{
		{"refused, as the guard does", call(deposit(3, 0, 1), 1, 2, 0, no(api.ErrAccount)), api.OK},
		{"the first that is wrong with it", call(deposit(3, 2, 0), 1, 2, 0, no(api.ErrAccount)), api.OK},
		{"another that is wrong with it", call(deposit(3, 2, 0), 1, 2, 0, no(api.ErrAsset)), api.ErrForm},
		{"refused by no error", call(deposit(3, 0, 1), 1, 2, 0, api.Answer{}), api.ErrForm},
		{"refused, and a Status", call(deposit(3, 0, 1), 1, 2, 0, api.Answer{Err: api.ErrAccount, Status: 1}), api.ErrForm},
		{"refused, and Positions", call(deposit(3, 0, 1), 1, 2, 0, api.Answer{Err: api.ErrAccount, Positions: []api.Position{{}}}), api.ErrForm},
		{"refused, and no Positions", call(deposit(3, 0, 1), 1, 2, 0, api.Answer{Err: api.ErrAccount, Positions: []api.Position{}}), api.OK},
		{"right, and answered", call(deposit(2, 0, 1), 1, 2, 0, api.Answer{}), api.ErrForm},
		{"right, and refused", call(deposit(2, 0, 1), 1, 2, 0, no(api.ErrAccount)), api.ErrForm},
		{"right, and refused by the ledger", call(withdraw(0, 0, 1), 1, 2, 0, no(api.ErrCover)), api.ErrForm},
		{"no such operation", call(api.Op{Code: 9}, 1, 2, 0, no(api.ErrCode)), api.OK},
		{"a snapshot that was refused", call(snapshot(0, 2), 1, 2, 0, no(api.ErrAsset)), api.OK},
		{"a snapshot of too many", call(many, 1, 2, 0, no(api.ErrMany)), api.OK},
		{"a snapshot refused by another error", call(snapshot(0, 2), 1, 2, 0, no(api.ErrAccount)), api.ErrForm},
		{"a snapshot refused, with a number", call(snapshot(0, 2), 1, 2, 1, no(api.ErrAsset)), api.ErrForm},
		{"a right snapshot, refused", call(snapshot(0, 1), 1, 2, 0, no(api.ErrAsset)), api.ErrForm},
		{"a wrong snapshot that reads", call(snapshot(0, 2), 1, 2, 0, shows(pos(0))), api.ErrForm}, // by point 8: it is a read
		{"it hasn't returned", call(deposit(2, 0, 1), 1, 0, 0, api.Answer{}), api.OK},
		{"wrong, and hasn't returned", call(deposit(3, 0, 1), 1, 0, 0, api.Answer{}), api.OK},
		{"wrong, refused, and hasn't returned", call(deposit(3, 0, 1), 1, 0, 0, no(api.ErrAccount)), api.ErrForm},
		{"it hasn't returned, and has a Status", call(deposit(2, 0, 1), 1, 0, 0, said(1)), api.ErrForm},
		{"it hasn't returned, and has Positions", call(snapshot(0, 0), 1, 0, 0, shows(pos(0))), api.ErrForm},
		{"it hasn't returned, and has no Positions", call(snapshot(0, 0), 1, 0, 0, api.Answer{Positions: []api.Position{}}), api.OK},
		{"a snapshot that hasn't returned, with a number", call(snapshot(0, 0), 1, 0, 1, api.Answer{}), api.ErrForm},
		{"a row that is too short", call(api.Op{}, 1, 2, 0, no(api.ErrShort)), api.OK},
		{"a row that is too long", call(api.Op{}, 1, 2, 0, no(api.ErrLong)), api.OK},
		{"a row without an operation", call(api.Op{}, 1, 2, 0, no(api.ErrCode)), api.OK},
		{"empty lists are none", call(api.Op{Legs: []api.Leg{}, Pairs: []api.Key{}}, 1, 2, 0, api.Answer{Err: api.ErrLong, Positions: []api.Position{}}), api.OK},
		{"a row refused by another error", call(api.Op{}, 1, 2, 0, no(api.ErrForm)), api.ErrForm},
		{"a row refused by none", call(api.Op{}, 1, 2, 0, api.Answer{}), api.ErrForm},
		{"a row refused, and a Status", call(api.Op{}, 1, 2, 0, api.Answer{Err: api.ErrShort, Status: 1}), api.ErrForm},
		{"a row refused, and Positions", call(api.Op{}, 1, 2, 0, api.Answer{Err: api.ErrLong, Positions: []api.Position{{}}}), api.ErrForm},
		{"a row refused that hasn't returned", call(api.Op{}, 1, 0, 0, no(api.ErrShort)), api.ErrForm},
		{"a row that hasn't returned", call(api.Op{}, 1, 0, 0, api.Answer{}), api.OK},
		{"not the zero operation", call(filled, 1, 2, 0, no(api.ErrShort)), api.ErrForm},
		{"a Submit that is too short by itself", call(submit(1), 1, 2, 0, no(api.ErrShort)), api.OK},
		{"a Deposit isn't a row that was refused", call(deposit(0, 0, 1), 1, 2, 0, no(api.ErrShort)), api.ErrForm},
	} {
		at := nowhere
		if x.no != api.OK {
			at = 1
		}
		first := call(status(1), 1, 2, 1, no(api.ErrLost))
		judge(t, x.name, c, api.Result{Calls: each(first, x.call)}, x.no, at)
	}
}

// TestZeroOps: an operation of which any field isn't zero is none of a row that was refused.
func TestZeroOps(t *testing.T) {
	for _, o := range []api.Op{{Code: 9}, {Account: 1}, {Asset: -1}, {Qty: 1}, {Name: 1}, {Id: 1}, {Legs: []api.Leg{{}}}, {Pairs: []api.Key{{}}}} {
		for _, err := range []api.Errno{api.ErrShort, api.ErrLong} {
			calls := each(call(o, 1, 2, 0, no(err)))
			judge(t, "a field", small(), api.Result{Calls: calls}, api.ErrForm, 0)
			seek(t, "a field", small(), calls, false)
			calls[0].Answer = no(api.ErrCode)
			judge(t, "no such operation", small(), api.Result{Calls: calls}, api.OK, nowhere)
			seek(t, "no such operation", small(), calls, true)
		}
	}
}

// TestFirstStray is point 7: the first by its place.
func TestFirstStray(t *testing.T) {
	stray := call(deposit(0, 0, 1), 1, 2, 0, api.Answer{})
	fine := call(deposit(0, 0, 0), 1, 2, 0, no(api.ErrAmount))
	judge(t, "two", small(), api.Result{Calls: each(fine, stray, fine, stray)}, api.ErrForm, 1)
}

// TestNumberedRows: a row that was refused is done where it stands, if it has a number, and is answered so.
func TestNumberedRows(t *testing.T) {
	for _, x := range []struct {
		err api.Errno
		no  api.Errno
	}{{api.ErrShort, api.OK}, {api.ErrLong, api.OK}, {api.ErrCode, api.OK}, {api.ErrArg, api.ErrForm}, {api.OK, api.ErrForm}} {
		at := nowhere
		if x.no != api.OK {
			at = 1
		}
		judge(t, "a row", small(), api.Result{Calls: each(call(status(1), 1, 2, 1, no(api.ErrLost)), call(api.Op{}, 3, 4, 2, no(x.err)))}, x.no, at)
	}
}

// TestDeeds is point 8.
func TestDeeds(t *testing.T) {
	answer := func(at int, a api.Answer) turn { return of(func(r *api.Result) { r.Calls[at].Answer = a }) }
	turned(t,
		wrong{"another status", answer(0, said(api.Settled)), api.ErrForm, 0},
		wrong{"no status", answer(0, api.Answer{}), api.ErrForm, 0},
		wrong{"a refusal", answer(0, no(api.ErrTwice)), api.ErrForm, 0},
		wrong{"a refusal too", answer(0, api.Answer{Err: api.ErrTwice, Status: api.Pending}), api.ErrForm, 0},
		wrong{"positions too", answer(0, api.Answer{Status: api.Pending, Positions: []api.Position{{}}}), api.ErrForm, 0},
		wrong{"no positions", answer(0, api.Answer{Status: api.Pending, Positions: []api.Position{}}), api.OK, nowhere},
		wrong{"a read of too few", answer(1, shows(pos(5))), api.ErrForm, 1},
		wrong{"of too many", answer(1, shows(pos(5), pos(0), pos(0))), api.ErrForm, 1},
		wrong{"turned about", answer(1, shows(pos(0), pos(5))), api.ErrForm, 1},
		wrong{"with marks", answer(1, shows(pos(5), pos(0, 1, 1))), api.ErrForm, 1},
		wrong{"with a status", answer(1, api.Answer{Status: 1, Positions: []api.Position{pos(5), pos(0)}}), api.ErrForm, 1},
		wrong{"with empty marks", answer(1, shows(pos(5), api.Position{Marks: []api.Mark{}})), api.OK, nowhere},
		wrong{"of nothing", answer(6, api.Answer{}), api.ErrForm, 6},
		wrong{"a read ahead of a settlement", of(func(r *api.Result) { r.Calls[6].Number, r.Calls[6].Invoked = 2, 6 }), api.ErrLoop, 6}, // the call ahead of it has returned at 11
		wrong{"another operation", of(func(r *api.Result) { r.Calls[8].Op.Qty = 2 }), api.ErrSum, nowhere},
		wrong{"an operation that is refused by itself", of(func(r *api.Result) { r.Calls[8].Op.Qty = 0 }), api.ErrForm, 8},
		wrong{"and answered so", of(func(r *api.Result) {
			r.Calls[8].Op.Qty, r.Calls[8].Answer = 0, no(api.ErrAmount)
			r.State.Balances[0].Position = pos(3)
		}), api.OK, nowhere},
		wrong{"a settlement of none", of(func(r *api.Result) { r.Settles[0].Id = 0 }), api.ErrForm, 11},
		wrong{"of one that isn't there", of(func(r *api.Result) { r.Settles[0].Id = -7 }), api.ErrForm, 11},
		wrong{"of one that comes later", of(func(r *api.Result) { r.Settles[0].Id = 8 }), api.ErrForm, 11},
		wrong{"of one that is settled", of(func(r *api.Result) { r.Settles[1].Id = 7 }), api.ErrForm, 12},
		wrong{"of another that is ready", of(func(r *api.Result) { r.Settles[1].Id = 8 }), api.ErrSum, nowhere},
		wrong{"the first in the order, not by place", of(func(r *api.Result) { r.Calls[1].Answer, r.Calls[2].Answer = api.Answer{}, said(1) }), api.ErrForm, 2},
		wrong{"a settlement ahead of calls", of(func(r *api.Result) { r.Calls[3].Answer, r.Settles[0].Id = api.Answer{}, 0 }), api.ErrForm, 11},
		wrong{"a call ahead of a settlement", of(func(r *api.Result) { r.Calls[3].Answer, r.Settles[1].Id = api.Answer{}, 0 }), api.ErrForm, 3},
	)
}

// TestUncovered is point 8: a settlement of one that isn't covered where it stands.
func TestUncovered(t *testing.T) {
	calls := each(call(submit(1, leg(0, 1, 0, 5, 0)), 1, 2, 1, said(api.Pending)), call(deposit(0, 0, 5), 1, 5, 2, api.Answer{}))
	judge(t, "behind", small(), api.Result{Calls: calls, Settles: []api.Settle{{Id: 1, Number: 3, At: 9}}}, api.OK, nowhere)
	calls[1].Number = 3
	judge(t, "ahead", small(), api.Result{Calls: calls, Settles: []api.Settle{{Id: 1, Number: 2, At: 9}}}, api.ErrForm, 2)
	calls[1].Op.Qty, calls[1].Number = 4, 2
	judge(t, "too little", small(), api.Result{Calls: calls, Settles: []api.Settle{{Id: 1, Number: 3, At: 9}}}, api.ErrForm, 2)
	calls[1] = call(cancel(1), 1, 5, 2, said(api.Cancelled))
	calls[1].Session = 1
	judge(t, "cancelled", small(), api.Result{Calls: calls, Settles: []api.Settle{{Id: 1, Number: 3, At: 9}}}, api.ErrForm, 2)
}

// TestDoneUnreturned is point 8: a numbered call that hasn't returned is done, and is told no answer.
func TestDoneUnreturned(t *testing.T) {
	open := call(deposit(0, 0, 5), 1, 0, 1, api.Answer{})
	seen := func(qty int64) api.Call { return call(snapshot(0, 0), 1, 9, 1, shows(pos(qty))) }
	judge(t, "it is done", small(), api.Result{Calls: each(open, seen(5))}, api.OK, nowhere)
	judge(t, "it isn't left out", small(), api.Result{Calls: each(open, seen(0))}, api.ErrForm, 1)
	told := open
	told.Answer = said(1)
	judge(t, "it is told", small(), api.Result{Calls: each(told, seen(5))}, api.ErrForm, 0)
	refused := call(withdraw(0, 0, 5), 1, 0, 1, no(api.ErrCover))
	judge(t, "it is told what the ledger says", small(), api.Result{Calls: each(refused, seen(0))}, api.ErrForm, 0)
	refused.Answer = api.Answer{Positions: []api.Position{}}
	judge(t, "it is refused, and told nothing", small(), api.Result{Calls: each(refused, seen(0))}, api.OK, nowhere)
	waits := call(submit(1, leg(0, 1, 0, 5, 0)), 1, 0, 1, api.Answer{})
	judge(t, "it waits, and settles", small(), api.Result{Calls: each(waits, call(deposit(0, 0, 5), 1, 5, 2, api.Answer{})), Settles: []api.Settle{{Id: 1, Number: 3}}}, api.OK, nowhere)
	row := call(api.Op{}, 1, 0, 1, no(api.ErrShort))
	judge(t, "a row that hasn't returned", small(), api.Result{Calls: each(row)}, api.ErrForm, 0)
	row.Answer = api.Answer{}
	judge(t, "and is told nothing", small(), api.Result{Calls: each(row)}, api.OK, nowhere)
}

// TestRoom is point 8: the ledger has room for as many as the configuration says.
func TestRoom(t *testing.T) {
	wait := func(id int, a api.Answer) api.Call { return call(submit(id, leg(0, 1, 0, 1, 0)), id, 9, id, a) }
	r := api.Result{Calls: each(wait(1, said(api.Pending)), wait(2, said(api.Pending)), wait(3, no(api.ErrFull)))}
	for queue, x := range []struct {
		no api.Errno
		at int
	}{{api.ErrForm, 0}, {api.ErrForm, 1}, {api.OK, nowhere}, {api.ErrForm, 2}} {
		judge(t, "room", api.Config{Accounts: 2, Assets: 1, Queue: queue, Shards: 1}, r, x.no, x.at)
	}
}

// TestQuiet is point 9.
func TestQuiet(t *testing.T) {
	late := func(at int) turn {
		return of(func(r *api.Result) { r.Calls[at].Returned, r.Calls[at].Answer = 0, api.Answer{} })
	}
	turned(t,
		wrong{"a numbered call that hasn't returned", late(10), api.ErrShort, 10},
		wrong{"one that is none", of(func(r *api.Result) {
			r.Calls[6].Op = deposit(0, 0, 0)
			r.Calls[6].Number, r.Calls[6].Returned, r.Calls[6].Answer = 0, 0, api.Answer{}
		}), api.ErrShort, 6},
		wrong{"the first of them", func(c *api.Config, r *api.Result) {
			late(10)(c, r)
			r.Calls[6].Number = 0
			late(6)(c, r)
		}, api.ErrShort, 6},
		wrong{"the first settlement without a time", of(func(r *api.Result) { r.Settles[1].At, r.Settles[0].At = 0, 0 }), api.ErrShort, 11},
		wrong{"the second", of(func(r *api.Result) { r.Settles[1].At = 0 }), api.ErrShort, 12},
		wrong{"calls ahead of settlements", func(c *api.Config, r *api.Result) {
			late(10)(c, r)
			r.Settles[0].At = 0
		}, api.ErrShort, 10},
		wrong{"stuck", of(func(r *api.Result) { r.Stuck = 32 }), api.ErrLoop, nowhere},
		wrong{"stuck below 0", of(func(r *api.Result) { r.Stuck = -1 }), api.ErrLoop, nowhere},
		wrong{"ready, and one worker", func(c *api.Config, _ *api.Result) { c.Workers = 1 }, api.ErrCover, nowhere},
		wrong{"ready, and eight workers", func(c *api.Config, _ *api.Result) { c.Workers = 8 }, api.ErrCover, nowhere},
		wrong{"not ready any more", func(c *api.Config, r *api.Result) {
			c.Workers = 1
			r.Calls[8].Op, r.Settles[1], r.State = deposit(1, 1, 1), api.Settle{}, api.State{}
			r.Settles, r.Calls[9] = r.Settles[:1], call(status(99), 20, 21, 7, no(api.ErrLost))
			r.Calls[9].Session, r.Calls[9].Index = 3, 2
			r.State.Balances = []api.Balance{{Key: api.Key{Account: 1}, Position: pos(5)}, {Key: api.Key{Account: 1, Asset: 1}, Position: pos(1)}, {Key: api.Key{Account: 2, Asset: 1}, Position: pos(3)}}
			r.State.Instructions = []api.Instruction{aRun().State.Instructions[0], aRun().State.Instructions[1]}
			r.State.Queue = []int{8}
		}, api.OK, nowhere},
		wrong{"turns aren't looked at", of(func(r *api.Result) { r.Turns = -99 }), api.OK, nowhere},
		wrong{"nor workers", of(func(r *api.Result) { r.Settles[0].Worker, r.Settles[1].Worker = -1, 99 }), api.OK, nowhere},
	)
}

// TestStates is point 9: a State that isn't the ledger's.
func TestStates(t *testing.T) {
	for i, turn := range []func(s *api.State){
		func(s *api.State) { *s = api.State{} },
		func(s *api.State) { s.Balances = s.Balances[1:] },
		func(s *api.State) { s.Balances[0], s.Balances[1] = s.Balances[1], s.Balances[0] },
		func(s *api.State) { s.Balances[0].Key.Account = 2 },
		func(s *api.State) { s.Balances[0].Key.Asset = 0 },
		func(s *api.State) { s.Balances[0].Position.Avail = 3 },
		func(s *api.State) { s.Balances[0].Position = pos(3, 1, 1) },
		func(s *api.State) { s.Balances = append(s.Balances, api.Balance{Key: api.Key{Account: 2}}) },
		func(s *api.State) { s.Instructions = s.Instructions[:2] },
		func(s *api.State) { s.Instructions[0].Id = 6 },
		func(s *api.State) { s.Instructions[0].Record.Status = api.Pending },
		func(s *api.State) { s.Instructions[2].Record.Legs[0].Qty = 4 },
		func(s *api.State) { s.Instructions[1].Record.Legs = nil },
		func(s *api.State) { s.Instructions[0], s.Instructions[1] = s.Instructions[1], s.Instructions[0] },
		func(s *api.State) { s.Queue = nil },
		func(s *api.State) { s.Queue[0] = 7 },
		func(s *api.State) { s.Queue = append(s.Queue, 9) },
	} {
		r := aRun()
		turn(&r.State)
		judge(t, "state "+strconv.Itoa(i), wide(), r, api.ErrSum, nowhere)
	}
	r := aRun()
	r.State.Balances[0].Position.Marks = []api.Mark{}
	judge(t, "empty marks", wide(), r, api.OK, nowhere)
	judge(t, "empty lists", wide(), api.Result{Quiet: true, State: api.State{Balances: []api.Balance{}, Instructions: []api.Instruction{}, Queue: []int{}}}, api.OK, nowhere)
}

// TestQueueOrder is point 9: the State's queue is in the order in which instructions came.
func TestQueueOrder(t *testing.T) {
	wait := func(id, number int) api.Call {
		return call(submit(id, leg(0, 1, 0, 1, 0)), number, 9, number, said(api.Pending))
	}
	r := api.Result{Calls: each(wait(2, 1), wait(1, 2)), Quiet: true}
	for id := 1; id <= 2; id++ {
		r.State.Instructions = append(r.State.Instructions, api.Instruction{Id: id, Record: api.Record{Status: api.Pending, Legs: []api.Leg{leg(0, 1, 0, 1, 0)}}})
	}
	r.State.Queue = []int{2, 1}
	judge(t, "as they came", wide(), r, api.OK, nowhere)
	r.State.Queue = []int{1, 2}
	judge(t, "sorted", wide(), r, api.ErrSum, nowhere)
}

// TestCut is point 10: a run that isn't quiet has no State; the rest of its end isn't looked at.
func TestCut(t *testing.T) {
	for i, s := range []api.State{aRun().State, {Queue: []int{0}}, {Balances: []api.Balance{{}}}, {Instructions: []api.Instruction{{}}}} {
		r := cutRun()
		r.State = s
		judge(t, "state "+strconv.Itoa(i), wide(), r, api.ErrSum, nowhere)
	}
	r := cutRun()
	r.State = api.State{Balances: []api.Balance{}, Instructions: []api.Instruction{}, Queue: []int{}}
	judge(t, "empty lists", wide(), r, api.OK, nowhere)
	r = cutRun()
	r.Stuck, r.Turns = 5, -1
	r.Calls[10].Returned, r.Settles[1].At = 0, 0
	c := wide()
	c.Workers = 3
	judge(t, "calls and settlements that aren't over, stuck, ready", c, r, api.OK, nowhere)
}

// TestGreatAmounts: the ledger's bounds are those of Check.
func TestGreatAmounts(t *testing.T) {
	r := api.Result{Calls: each(call(deposit(0, 0, most), 1, 2, 1, api.Answer{}), call(deposit(0, 0, 1), 3, 4, 2, no(api.ErrOver)), call(snapshot(0, 0), 5, 6, 2, shows(pos(most))))}
	judge(t, "above the greatest", small(), r, api.OK, nowhere)
	r.Calls[1].Answer = api.Answer{}
	judge(t, "it isn't refused", small(), r, api.ErrForm, 1)
}
