package audit_test

import (
	"math"
	"slices"
	"testing"

	"custody/api"
	"custody/audit"
	"custody/proof"
)

// wide is the configuration of aRun, without workers.
func wide() api.Config { return api.Config{Accounts: 3, Assets: 2, Queue: 3, Shards: 2} }

// aRun is a result that is right: four sessions, two settlements; the instruction 8 is ready at its end.
func aRun() api.Result {
	r := api.Result{
		Calls: sessions(
			[]api.Call{
				call(submit(7, leg(0, 1, 0, 5, 0)), 1, 4, 1, said(api.Pending)), // 0
				call(snapshot(0, 0, 1, 0), 5, 10, 2, shows(pos(5), pos(0))),     // 1
			},
			[]api.Call{
				call(deposit(0, 0, 5), 2, 6, 2, api.Answer{}), // 2
				call(status(7), 12, 13, 4, said(api.Settled)), // 3
			},
			[]api.Call{
				call(deposit(0, 0, 0), 3, 8, 0, no(api.ErrAmount)), // 4
				call(api.Op{}, 9, 11, 0, no(api.ErrShort)),         // 5
				call(snapshot(1, 0), 14, 15, 4, shows(pos(5))),     // 6
			},
			[]api.Call{
				call(submit(8, leg(0, 1, 1, 1, 0)), 16, 17, 5, said(api.Pending)), // 7
				call(deposit(0, 1, 1), 18, 19, 6, api.Answer{}),                   // 8
				call(submit(9, leg(2, 0, 1, 3, 0)), 20, 21, 7, said(api.Pending)), // 9
				call(deposit(2, 1, 3), 22, 23, 8, api.Answer{}),                   // 10
			},
		),
		Settles: []api.Settle{{Id: 7, Number: 3, At: 7}, {Id: 9, Number: 9, At: 24}}, // 11, 12
		Quiet:   true,
	}
	r.State = api.State{
		Balances: []api.Balance{{Key: api.Key{Account: 0, Asset: 1}, Position: pos(4)}, {Key: api.Key{Account: 1}, Position: pos(5)}},
		Instructions: []api.Instruction{
			{Id: 7, Record: api.Record{Status: api.Settled, Legs: []api.Leg{leg(0, 1, 0, 5, 0)}}},
			{Id: 8, Record: api.Record{Status: api.Pending, Legs: []api.Leg{leg(0, 1, 1, 1, 0)}}},
			{Id: 9, Record: api.Record{Status: api.Settled, Legs: []api.Leg{leg(2, 0, 1, 3, 0)}}},
		},
		Queue: []int{8},
	}
	return r
}

// cutRun is aRun cut: it isn't quiet, and has no state.
func cutRun() api.Result {
	r := aRun()
	r.Quiet, r.State = false, api.State{}
	return r
}

func TestRight(t *testing.T) {
	judge(t, "a run", wide(), aRun(), api.OK, nowhere)
	judge(t, "a run that was cut", wide(), cutRun(), api.OK, nowhere)
	judge(t, "nothing", small(), api.Result{}, api.OK, nowhere)
	judge(t, "nothing, and quiet", small(), api.Result{Quiet: true}, api.OK, nowhere)
	if got, want := audit.Order(aRun()), []int{0, 2, 1, 11, 3, 6, 7, 8, 9, 10, 12}; !slices.Equal(got, want) {
		t.Errorf("the order is %v, not %v", got, want)
	}
}

// turn turns something of a configuration and a result.
type turn func(c *api.Config, r *api.Result)

// of is a turn of a result alone.
func of(f func(r *api.Result)) turn { return func(_ *api.Config, r *api.Result) { f(r) } }

// wrong is what a turn of aRun comes to.
type wrong struct {
	name string
	turn turn
	no   api.Errno
	at   int
}

// turned holds aRun, turned in one way, against what is written down.
func turned(t *testing.T, l ...wrong) {
	t.Helper()
	for _, x := range l {
		c, r := wide(), aRun()
		x.turn(&c, &r)
		judge(t, x.name, c, r, x.no, x.at)
	}
}

// points are turns that can all be made together, from what Check looks at first to what it looks at last.
func points() []wrong {
	return []wrong{
		{"1 the configuration", func(c *api.Config, _ *api.Result) { c.Accounts = 0 }, api.ErrArg, nowhere},
		{"2 a call's number", of(func(r *api.Result) { r.Calls[6].Number = -1 }), api.ErrArg, 6},
		{"2 a settlement's number", of(func(r *api.Result) { r.Settles[1].Number = 0 }), api.ErrArg, 12},
		{"3 a number twice", of(func(r *api.Result) { r.Calls[7].Number = 2 }), api.ErrTwice, 7},
		{"4 a number beyond", of(func(r *api.Result) { r.Calls[10].Number = 100 }), api.ErrLost, nowhere},
		{"5 a call's place", of(func(r *api.Result) { r.Calls[5].Index = 7 }), api.ErrForm, 5},
		{"5 a call's times", of(func(r *api.Result) { r.Calls[8].Invoked = 0 }), api.ErrLoop, 8},
		{"5 a settlement's time", of(func(r *api.Result) { r.Settles[0].At = -1 }), api.ErrLoop, 11},
		{"6 the order", of(func(r *api.Result) { r.Calls[1].Number = 0 }), api.ErrLoop, 1},
		{"7 a refusal", of(func(r *api.Result) { r.Calls[4].Answer.Err = api.ErrAsset }), api.ErrForm, 4},
		{"8 an answer", of(func(r *api.Result) { r.Calls[2].Answer.Status = 1 }), api.ErrForm, 2},
		{"8 a settlement", of(func(r *api.Result) { r.Settles[1].Id = 99 }), api.ErrForm, 12},
		{"9 a call that hasn't returned", of(func(r *api.Result) { r.Calls[6].Returned, r.Calls[6].Number, r.Calls[6].Answer = 0, 0, api.Answer{} }), api.ErrShort, 6},
		{"9 a settlement without a time", of(func(r *api.Result) { r.Settles[1].At = 0 }), api.ErrShort, 12},
		{"9 stuck", of(func(r *api.Result) { r.Stuck = 1 }), api.ErrLoop, nowhere},
		{"9 ready", func(c *api.Config, _ *api.Result) { c.Workers = 1 }, api.ErrCover, nowhere},
		{"9 the state", of(func(r *api.Result) { r.State.Queue = nil }), api.ErrSum, nowhere},
	}
}

// TestPoints: each point alone, and each ahead of all that come behind it.
func TestPoints(t *testing.T) {
	l := points()
	turned(t, l...)
	c, r := wide(), aRun()
	for _, x := range slices.Backward(l) {
		x.turn(&c, &r)
		judge(t, x.name+" and all behind it", c, r, x.no, x.at)
	}
	for i, x := range l {
		for _, y := range l[i+1:] {
			c, r := wide(), aRun()
			y.turn(&c, &r)
			x.turn(&c, &r)
			judge(t, x.name+" and "+y.name, c, r, x.no, x.at)
		}
	}
	// The last point, of a run that isn't quiet, behind the others.
	for _, x := range l[:12] {
		c, r := wide(), aRun()
		r.Quiet = false
		judge(t, "10", c, r, api.ErrSum, nowhere)
		x.turn(&c, &r)
		judge(t, x.name+" of a run that isn't quiet", c, r, x.no, x.at)
	}
}

// TestConfigurations is point 1, at the bounds of a configuration and one beyond.
func TestConfigurations(t *testing.T) {
	turn := func(turn func(c *api.Config)) api.Config {
		c := wide()
		turn(&c)
		return c
	}
	for _, x := range []struct {
		c  api.Config
		no api.Errno
	}{
		{api.Config{}, api.ErrArg},
		{turn(func(c *api.Config) { c.Accounts = 0 }), api.ErrArg},
		{turn(func(c *api.Config) { c.Accounts = 65536 }), api.OK},
		{turn(func(c *api.Config) { c.Accounts = 65537 }), api.ErrArg},
		{turn(func(c *api.Config) { c.Assets = -1 }), api.ErrArg},
		{turn(func(c *api.Config) { c.Assets = 65536 }), api.OK},
		{turn(func(c *api.Config) { c.Assets = 65537 }), api.ErrArg},
		{turn(func(c *api.Config) { c.Queue = -1 }), api.ErrArg},
		{turn(func(c *api.Config) { c.Queue = 256 }), api.OK},
		{turn(func(c *api.Config) { c.Queue = 257 }), api.ErrArg},
		{turn(func(c *api.Config) { c.Shards = 0 }), api.ErrArg},
		{turn(func(c *api.Config) { c.Shards = 64 }), api.OK},
		{turn(func(c *api.Config) { c.Shards = 65 }), api.ErrArg},
		{turn(func(c *api.Config) { c.Workers = -1 }), api.ErrArg},
		{turn(func(c *api.Config) { c.Workers = 9 }), api.ErrArg},
		{turn(func(c *api.Config) { c.Workers = math.MaxInt }), api.ErrArg},
	} {
		judge(t, "a configuration", x.c, aRun(), x.no, nowhere)
		_, err := audit.Search(x.c, aRun().Calls[:2])
		if !proof.Tells(err, x.no) {
			t.Errorf("%+v: Search is told %v, not %v", x.c, err, x.no)
		}
	}
	c := turn(func(c *api.Config) { c.Workers = 8 })
	r := aRun()
	r.Settles, r.Calls = r.Settles[:1], r.Calls[:7]
	r.State.Balances = r.State.Balances[1:]
	r.State.Instructions, r.State.Queue = r.State.Instructions[:1], nil
	judge(t, "eight workers", c, r, api.OK, nowhere)
}

// TestNumbersBelow is point 2.
func TestNumbersBelow(t *testing.T) {
	for i := range aRun().Calls {
		for _, n := range []int{-1, math.MinInt} {
			turned(t, wrong{"a call", of(func(r *api.Result) { r.Calls[i].Number = n }), api.ErrArg, i})
		}
	}
	for i := range aRun().Settles {
		for _, n := range []int{0, -1, math.MinInt} {
			turned(t, wrong{"a settlement", of(func(r *api.Result) { r.Settles[i].Number = n }), api.ErrArg, 11 + i})
		}
	}
	turned(t,
		wrong{"the first call", of(func(r *api.Result) { r.Calls[9].Number, r.Calls[3].Number = -1, -2 }), api.ErrArg, 3},
		wrong{"the first settlement", of(func(r *api.Result) { r.Settles[1].Number, r.Settles[0].Number = -1, 0 }), api.ErrArg, 11},
		wrong{"calls ahead of settlements", of(func(r *api.Result) { r.Settles[0].Number, r.Calls[10].Number = -1, -1 }), api.ErrArg, 10},
		wrong{"a snapshot that hasn't returned", of(func(r *api.Result) {
			r.Calls[6] = api.Call{Session: 2, Index: 2, Op: snapshot(), Invoked: 14, Number: -1}
		}), api.ErrArg, 6},
		wrong{"a row that was refused", of(func(r *api.Result) { r.Calls[5].Number = -1 }), api.ErrArg, 5},
	)
	judge(t, "a settlement alone", small(), api.Result{Settles: settles(0)}, api.ErrArg, 0)
}

// TestTwice is point 3.
func TestTwice(t *testing.T) {
	turned(t,
		wrong{"two calls", of(func(r *api.Result) { r.Calls[10].Number = 6 }), api.ErrTwice, 10},
		wrong{"two calls, the lesser number behind", of(func(r *api.Result) { r.Calls[0].Number = 8 }), api.ErrTwice, 10},
		wrong{"two settlements", of(func(r *api.Result) { r.Settles[1].Number = 3 }), api.ErrTwice, 12},
		wrong{"a call and a settlement", of(func(r *api.Result) { r.Settles[0].Number = 8 }), api.ErrTwice, 11},
		wrong{"the first of several", of(func(r *api.Result) { r.Calls[8].Number, r.Calls[9].Number, r.Settles[0].Number = 5, 5, 1 }), api.ErrTwice, 8},
		wrong{"three of one number", of(func(r *api.Result) { r.Calls[2].Number, r.Calls[3].Number = 1, 1 }), api.ErrTwice, 2},
		wrong{"the first place, not the first number", of(func(r *api.Result) { r.Calls[3].Number, r.Calls[10].Number = 2, 1 }), api.ErrTwice, 3},
		wrong{"a read's number is none of its own", of(func(r *api.Result) { r.Calls[1].Number = 1 }), api.ErrForm, 1},
		wrong{"two reads of one number", of(func(r *api.Result) { r.Calls[6].Op, r.Calls[6].Answer = snapshot(), api.Answer{} }), api.OK, nowhere},
		wrong{"calls without a number", of(func(r *api.Result) { r.Calls[5].Op, r.Calls[5].Answer = api.Op{}, no(api.ErrCode) }), api.OK, nowhere},
	)
	judge(t, "at the greatest number", small(), api.Result{Settles: settles(math.MaxInt, math.MaxInt)}, api.ErrTwice, 1)
}

// TestLost is point 4.
func TestLost(t *testing.T) {
	turned(t,
		wrong{"a gap", of(func(r *api.Result) { r.Settles[1].Number = 10 }), api.ErrLost, nowhere},
		wrong{"a gap at the first", of(func(r *api.Result) { r.Calls[0].Number = 0 }), api.ErrLost, nowhere},
		wrong{"a gap between", of(func(r *api.Result) { r.Settles = r.Settles[1:] }), api.ErrLost, nowhere},
		wrong{"the greatest number", of(func(r *api.Result) { r.Calls[10].Number = math.MaxInt }), api.ErrLost, nowhere},
		wrong{"a read's number above all", of(func(r *api.Result) { r.Calls[6].Number = 10 }), api.ErrLost, nowhere},
		wrong{"a read's number at the last", of(func(r *api.Result) { r.Calls[6].Number, r.Calls[6].Invoked, r.Calls[6].Returned = 9, 25, 26 }), api.OK, nowhere},
		wrong{"a read's greatest number", of(func(r *api.Result) { r.Calls[1].Number = math.MaxInt }), api.ErrLost, nowhere},
		wrong{"a number of a snapshot that was refused isn't looked at here", of(func(r *api.Result) { r.Calls[6].Number, r.Calls[6].Answer = 99, no(api.ErrMany) }), api.ErrForm, 6},
		wrong{"nor of one that hasn't returned", of(func(r *api.Result) { r.Calls[6].Number, r.Calls[6].Returned, r.Calls[6].Answer = 99, 0, api.Answer{} }), api.ErrForm, 6},
	)
	judge(t, "a read alone", small(), api.Result{Calls: each(call(snapshot(), 1, 2, 1, api.Answer{}))}, api.ErrLost, nowhere)
	judge(t, "a read of 0 alone", small(), api.Result{Calls: each(call(snapshot(), 1, 2, 0, api.Answer{}))}, api.OK, nowhere)
}

// move lays a call elsewhere.
func move(at, session, index int) turn {
	return of(func(r *api.Result) { r.Calls[at].Session, r.Calls[at].Index = session, index })
}

// TestPlaces is point 5: where calls stand.
func TestPlaces(t *testing.T) {
	turned(t,
		wrong{"a session ahead of the one before", move(4, 0, 0), api.ErrForm, 4},
		wrong{"its first index too", move(2, -1, 0), api.ErrForm, 2},
		wrong{"the least session", move(10, math.MinInt, 0), api.ErrForm, 10},
		wrong{"an index again", move(1, 0, 0), api.ErrForm, 1},
		wrong{"an index left out", move(1, 0, 2), api.ErrForm, 1},
		wrong{"an index below 0", move(0, 0, -1), api.ErrForm, 0},
		wrong{"a session that doesn't begin by 0", move(0, 0, 1), api.ErrForm, 0},
		wrong{"nor the second", move(2, 1, 1), api.ErrForm, 2},
		wrong{"an index that goes on from the session before", move(2, 1, 2), api.ErrForm, 2},
		wrong{"the greatest index", move(6, 2, math.MaxInt), api.ErrForm, 6},
		wrong{"a session of its own", move(10, 4, 0), api.OK, nowhere},
		wrong{"sessions may be left out", move(10, math.MaxInt, 0), api.OK, nowhere},
		wrong{"form ahead of loop, of one call", of(func(r *api.Result) { r.Calls[3].Index, r.Calls[3].Invoked = 0, 0 }), api.ErrForm, 3},
		wrong{"of calls the first, whatever is wrong", of(func(r *api.Result) { r.Calls[3].Index, r.Calls[2].Invoked = 0, 0 }), api.ErrLoop, 2},
	)
	r := aRun()
	for i := range r.Calls {
		r.Calls[i].Session -= 2
	}
	judge(t, "sessions below 0", wide(), r, api.OK, nowhere)
}

// times lays the times of a call elsewhere.
func times(at, invoked, returned int) turn {
	return of(func(r *api.Result) { r.Calls[at].Invoked, r.Calls[at].Returned = invoked, returned })
}

// TestTimes is point 5: when calls were invoked, and have returned.
func TestTimes(t *testing.T) {
	turned(t,
		wrong{"invoked at 0", times(2, 0, 6), api.ErrLoop, 2},
		wrong{"invoked below 0", times(0, -1, 4), api.ErrLoop, 0},
		wrong{"invoked at 1", times(2, 1, 6), api.OK, nowhere},
		wrong{"at the least time", times(2, math.MinInt, 6), api.ErrLoop, 2},
		wrong{"returned when it was invoked", times(6, 14, 14), api.ErrLoop, 6},
		wrong{"returned ahead of that", times(6, 14, 13), api.ErrLoop, 6},
		wrong{"returned below 0", times(6, 14, -1), api.ErrLoop, 6},
		wrong{"returned right behind it", times(6, 14, 15), api.OK, nowhere},
		wrong{"returned at the greatest time", times(6, 14, math.MaxInt), api.OK, nowhere},
		wrong{"invoked at the greatest time", times(6, math.MaxInt-1, math.MaxInt), api.ErrLoop, 6}, // by point 6: others stand behind it
		wrong{"invoked when the one ahead has returned", times(3, 6, 13), api.ErrLoop, 3},
		wrong{"invoked ahead of that", times(3, 5, 13), api.ErrLoop, 3},
		wrong{"invoked behind it", times(3, 7, 13), api.OK, nowhere},
		wrong{"behind one that has not returned", of(func(r *api.Result) { r.Calls[9].Returned, r.Calls[9].Answer = 0, api.Answer{} }), api.ErrLoop, 10},
		wrong{"the first of another session may be invoked at any time", times(4, 1, 8), api.OK, nowhere},
		wrong{"times may stand twice", times(2, 1, 4), api.OK, nowhere},
		wrong{"a settlement at -1", of(func(r *api.Result) { r.Settles[1].At = -1 }), api.ErrLoop, 12},
		wrong{"the first settlement", of(func(r *api.Result) { r.Settles[1].At, r.Settles[0].At = -1, math.MinInt }), api.ErrLoop, 11},
		wrong{"a settlement at the greatest time", of(func(r *api.Result) { r.Settles[1].At = math.MaxInt }), api.OK, nowhere},
		wrong{"a call ahead of settlements", of(func(r *api.Result) { r.Settles[0].At, r.Calls[10].Index = -1, 0 }), api.ErrForm, 10},
	)
}

// TestOverWhenInvoked is point 6.
func TestOverWhenInvoked(t *testing.T) {
	ask := func(number, invoked, returned int) api.Call {
		return call(status(1), invoked, returned, number, no(api.ErrLost))
	}
	see := func(number, invoked, returned int) api.Call {
		return call(snapshot(), invoked, returned, number, api.Answer{})
	}
	wait := func(number, invoked, returned int) api.Call {
		return call(submit(number, leg(0, 1, 0, 1, 0)), invoked, returned, number, said(api.Pending))
	}
	open := func(x api.Call) api.Call {
		x.Returned, x.Answer = 0, api.Answer{}
		return x
	}
	c := api.Config{Accounts: 2, Assets: 1, Queue: 9, Shards: 1}
	for _, x := range []struct {
		name    string
		calls   []api.Call
		settles []api.Settle
		no      api.Errno
		at      int
	}{
		{"over ahead of it, and stands behind it", each(ask(1, 5, 6), ask(2, 3, 4)), nil, api.ErrLoop, 0},
		{"over when it was invoked, at that time", each(ask(1, 5, 6), ask(2, 3, 5)), nil, api.OK, nowhere},
		{"over ahead of it, and stands ahead of it", each(ask(2, 5, 6), ask(1, 3, 4)), nil, api.OK, nowhere},
		{"the order counts, not the place", each(ask(2, 3, 4), ask(1, 5, 6)), nil, api.ErrLoop, 1},
		{"one between", each(ask(1, 5, 6), ask(2, 1, 9), ask(3, 3, 4)), nil, api.ErrLoop, 0},
		{"the first in the order", each(ask(2, 7, 8), ask(1, 5, 6), ask(3, 3, 4)), nil, api.ErrLoop, 1},
		{"the first in the order that is wrong", each(ask(1, 2, 9), ask(3, 5, 6), ask(2, 7, 8)), nil, api.ErrLoop, 2},
		{"one that is over soonest stands far behind", each(ask(1, 5, 6), ask(2, 1, 9), ask(3, 1, 8), ask(4, 1, 2)), nil, api.ErrLoop, 0},
		{"one that hasn't returned is never over", each(ask(1, 5, 6), open(ask(2, 3, 0))), nil, api.OK, nowhere},
		{"but it was invoked", each(open(ask(1, 5, 0)), ask(2, 3, 4)), nil, api.ErrLoop, 0},
		{"a read behind one", each(ask(1, 5, 6), see(1, 3, 4)), nil, api.ErrLoop, 0},
		{"a read ahead of one", each(see(0, 5, 6), ask(1, 3, 4)), nil, api.ErrLoop, 0},
		{"a read at its place", each(see(1, 5, 6), ask(1, 3, 4)), nil, api.OK, nowhere},
		{"reads of one number", each(see(0, 5, 6), see(0, 3, 4)), nil, api.OK, nowhere},
		{"reads of unlike numbers", each(ask(1, 1, 9), see(0, 5, 6), see(1, 3, 4)), nil, api.ErrLoop, 1},
		{"what stands in no order isn't looked at", each(call(deposit(0, 0, 0), 7, 8, 0, no(api.ErrAmount)), ask(1, 3, 4), call(status(0), 1, 2, 0, no(api.ErrArg))), nil, api.OK, nowhere},
		{"a settlement that was over", each(wait(1, 5, 6)), []api.Settle{{Id: 1, Number: 2, At: 4}}, api.ErrLoop, 0},
		{"a settlement over at that time", each(wait(1, 5, 6)), []api.Settle{{Id: 1, Number: 2, At: 5}}, api.ErrForm, 1},
		{"a settlement that isn't over", each(wait(1, 5, 6)), []api.Settle{{Id: 1, Number: 2}}, api.ErrForm, 1},
		{"a settlement ahead of what was over", each(ask(2, 1, 2)), []api.Settle{{Id: 1, Number: 1, At: 9}}, api.ErrForm, 1},
		{"a settlement ahead of another one", nil, []api.Settle{{Id: 1, Number: 1, At: 9}, {Id: 2, Number: 2, At: 3}}, api.ErrForm, 0},
		{"a settlement ahead of a call that was invoked when it was over", each(ask(2, 5, 6)), []api.Settle{{Id: 1, Number: 1, At: 4}}, api.ErrForm, 1},
		{"two of them", each(ask(1, 9, 10), ask(2, 8, 9), ask(3, 6, 7)), []api.Settle{{Id: 1, Number: 4, At: 7}}, api.ErrLoop, 0},
	} {
		judge(t, x.name, c, api.Result{Calls: x.calls, Settles: x.settles}, x.no, x.at)
	}
}
