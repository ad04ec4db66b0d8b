package engine_test

import (
	"math/big"
	"slices"
	"testing"

	"custody/api"
	"custody/engine"
	"custody/ledger"
	"custody/proof"
)

// eachGame plays many games of both kinds, with enough picks or fewer.
func eachGame(t *testing.T, seed uint64, test func(t *testing.T, g game, r api.Result)) {
	t.Helper()
	d := proof.Dice(seed)
	for n := range 1500 {
		g := throw(&d)
		if n%3 == 0 {
			g = busy(&d)
		}
		g = g.enough(&d)
		if d.Below(3) == 0 {
			g = g.cut(t, &d)
		}
		r := g.play(t)
		test(t, g, r)
		if t.Failed() {
			t.Fatalf("%+v, sessions %v, picks %v: %+v", g.c, g.sessions, g.picks, r)
		}
	}
}

// row is that of a call.
func (g game) row(x api.Call) []int64 { return g.sessions[x.Session][x.Index] }

// reads tells whether a call is a Snapshot that has returned, and wasn't refused.
func reads(x api.Call) bool {
	return x.Op.Code == api.OpSnapshot && x.Returned > 0 && x.Answer.Err == api.OK
}

// event is an operation or a settlement that has a place in the order of W1.
type event struct {
	number int
	behind int // of a snapshot, when it returned: it stands behind the number that it read
	call   api.Call
	settle int // the id of a settlement
}

// order are the operations that have a number and the settlements, by their numbers, with the snapshots where they belong.
func order(r api.Result) []event {
	var l []event
	for _, x := range r.Calls {
		switch {
		case reads(x):
			l = append(l, event{number: x.Number, behind: x.Returned, call: x})
		case x.Number > 0:
			l = append(l, event{number: x.Number, call: x})
		}
	}
	for _, x := range r.Settles {
		l = append(l, event{number: x.Number, settle: x.Id})
	}
	slices.SortFunc(l, func(a, b event) int {
		if a.number != b.number {
			return a.number - b.number
		}
		return a.behind - b.behind
	})
	return l
}

// behindNumbers is W1: a ledger that does all one by one, in the order of their numbers, answers as the run did, and holds at the end what the run holds.
func behindNumbers(t *testing.T, g game, r api.Result) {
	t.Helper()
	l, err := ledger.New(g.c)
	if err != nil {
		t.Fatal(err)
	}
	for _, e := range order(r) {
		if e.settle > 0 {
			if !l.Settle(e.settle) {
				t.Fatalf("the ledger doesn't settle %d, which has the number %d", e.settle, e.number)
			}
			continue
		}
		if a := l.Do(e.call.Op); e.call.Returned > 0 && !proof.SameAnswer(a, e.call.Answer) {
			t.Fatalf("%+v is answered %+v by the ledger", e.call, a)
		}
	}
	if r.Quiet && !proof.SameState(r.State, l.State()) {
		t.Fatalf("the state is %+v, the ledger's %+v", r.State, l.State())
	}
}

// inTime is W1: who returned ahead of another's invocation stands ahead of it.
func inTime(t *testing.T, r api.Result) {
	t.Helper()
	last := 0 // the latest invocation of those that stand ahead
	for _, e := range order(r) {
		if e.settle > 0 {
			continue
		}
		if e.call.Returned > 0 && e.call.Returned < last {
			t.Fatalf("%+v stands behind one that was invoked at %d", e.call, last)
		}
		last = max(last, e.call.Invoked)
	}
}

// W1: linearizable, in the order of the numbers.
func TestLinearizable(t *testing.T) {
	returned, open, settles, snapshots := 0, 0, 0, 0
	eachGame(t, 2020, func(t *testing.T, g game, r api.Result) {
		behindNumbers(t, g, r)
		inTime(t, r)
		settles += len(r.Settles)
		for _, x := range r.Calls {
			switch {
			case reads(x):
				snapshots++
			case x.Number > 0 && x.Returned > 0:
				returned++
			case x.Number > 0:
				open++
			case x.Returned > 0: // refused by itself, in every state alike
				if _, no := judged(g.c, g.row(x)); no == api.OK || !proof.SameAnswer(x.Answer, api.Answer{Err: no}) {
					t.Fatalf("%+v returned without a number", x)
				}
			}
		}
	})
	if returned < 10000 || open < 100 || settles < 1000 || snapshots < 2000 {
		t.Errorf("only %d returned, %d not, %d settlements, %d snapshots", returned, open, settles, snapshots)
	}
}

// counted checks that numbers are 1 to as many as there are, each once.
func counted(t *testing.T, of string, l []int) {
	t.Helper()
	slices.Sort(l)
	for i, n := range l {
		if n != i+1 {
			t.Fatalf("%s are %v", of, l)
		}
	}
}

// P20.6
func TestNumbers(t *testing.T) {
	eachGame(t, 2021, func(t *testing.T, g game, r api.Result) {
		var numbers []int
		submitted := map[int]api.Call{} // of each id the one that made its record
		for _, x := range r.Calls {
			if x.Op.Code == api.OpSnapshot {
				continue
			}
			if x.Number > 0 {
				numbers = append(numbers, x.Number)
			}
			if x.Op.Code == api.OpSubmit && x.Returned > 0 && x.Answer.Err == api.OK {
				if _, twice := submitted[x.Op.Id]; twice {
					t.Fatalf("%d was submitted twice", x.Op.Id)
				}
				submitted[x.Op.Id] = x
			}
		}
		settled := map[int]int{}
		for i, x := range r.Settles {
			numbers = append(numbers, x.Number)
			if i > 0 && x.Number <= r.Settles[i-1].Number {
				t.Fatalf("settlements are %+v", r.Settles)
			}
			if settled[x.Id]++; settled[x.Id] > 1 {
				t.Fatalf("%d was settled twice", x.Id)
			}
			if by, ok := submitted[x.Id]; ok && (by.Answer.Status != api.Pending || by.Number >= x.Number) {
				t.Fatalf("%+v was settled by %+v", by, x)
			}
		}
		counted(t, "numbers", numbers)
	})
}

// P20.7, and the order of Calls; of a session's operations only the last hasn't returned.
func TestTimes(t *testing.T) {
	eachGame(t, 2022, func(t *testing.T, g game, r api.Result) {
		var times []int
		for i, x := range r.Calls {
			times = append(times, x.Invoked)
			if x.Returned > 0 {
				times = append(times, x.Returned)
			}
			if x.Returned > 0 && x.Returned <= x.Invoked {
				t.Fatalf("%+v returned ahead of its invocation", x)
			}
			if x.Returned == 0 && !proof.SameAnswer(x.Answer, api.Answer{}) {
				t.Fatalf("%+v is answered, and hasn't returned", x)
			}
			if i == 0 {
				continue
			}
			before := r.Calls[i-1]
			if x.Session < before.Session || x.Session > before.Session && x.Index != 0 {
				t.Fatalf("%+v stands behind %+v", x, before)
			}
			if x.Session == before.Session && (x.Index != before.Index+1 || before.Returned == 0 || x.Invoked < before.Returned) {
				t.Fatalf("%+v stands behind %+v", x, before)
			}
		}
		for _, x := range r.Settles {
			if x.At > 0 {
				times = append(times, x.At)
			}
			if x.Worker < 0 || x.Worker >= g.c.Workers {
				t.Fatalf("%+v is by no worker", x)
			}
		}
		counted(t, "times", times)
	})
}

// begins is P20.8: what a run with fewer of the picks must be, beside the longer one.
func begins(t *testing.T, short, long api.Result) {
	t.Helper()
	if short.Quiet {
		if !proof.SameResult(short, long) {
			t.Fatalf("%+v is quiet, and then %+v", short, long)
		}
		return
	}
	for _, x := range short.Calls {
		at := slices.IndexFunc(long.Calls, func(y api.Call) bool { return x.Session == y.Session && x.Index == y.Index })
		if at < 0 {
			t.Fatalf("%+v is gone", x)
		}
		y := long.Calls[at]
		if !proof.SameOp(x.Op, y.Op) || x.Invoked != y.Invoked || x.Returned > 0 && !proof.SameCall(x, y) || x.Number > 0 && x.Number != y.Number {
			t.Fatalf("%+v, and then %+v", x, y)
		}
	}
	for i, x := range short.Settles {
		if i >= len(long.Settles) || x.Worker != long.Settles[i].Worker || x.Id != long.Settles[i].Id || x.Number != long.Settles[i].Number || x.At > 0 && x.At != long.Settles[i].At {
			t.Fatalf("%+v, and then %+v", short.Settles, long.Settles)
		}
	}
}

// P20.8, of games that are cut at every turn.
func TestBeginnings(t *testing.T) {
	d := proof.Dice(2023)
	for n := range 60 {
		g := throw(&d)
		if n%2 == 0 {
			g = busy(&d)
		}
		g.sessions = g.sessions[:min(len(g.sessions), 4)]
		for i, l := range g.sessions {
			g.sessions[i] = l[:min(len(l), 9)]
		}
		g = g.enough(&d)
		whole := g.play(t)
		var before api.Result
		for cut := range whole.Turns + 2 {
			g := game{g.c, g.sessions, g.picks[:min(cut, len(g.picks))]}
			r, _ := g.agree(t)
			if r.Turns != min(cut, whole.Turns) || r.Quiet != (cut >= whole.Turns) {
				t.Fatalf("%d picks: %d turns, quiet: %v, where the whole has %d turns", cut, r.Turns, r.Quiet, whole.Turns)
			}
			if !r.Quiet && !proof.SameState(r.State, api.State{}) {
				t.Fatalf("a run that is cut has the state %+v", r.State)
			}
			begins(t, before, r)
			begins(t, r, whole)
			before = r
		}
	}
}

// moved is what was deposited of an asset less what was withdrawn, by calls up to a number that were not refused; false: of one the answer isn't known.
func moved(r api.Result, asset, number int) (*big.Int, bool) {
	sum := new(big.Int)
	for _, x := range r.Calls {
		if x.Number == 0 || x.Number > number || x.Op.Code != api.OpDeposit && x.Op.Code != api.OpWithdraw {
			continue
		}
		if x.Returned == 0 {
			return nil, false
		}
		qty := big.NewInt(x.Op.Qty)
		switch {
		case x.Answer.Err != api.OK || x.Op.Asset != asset:
		case x.Op.Code == api.OpDeposit:
			sum.Add(sum, qty)
		default:
			sum.Sub(sum, qty)
		}
	}
	return sum, true
}

// sum is what positions have in total, in numbers of any width.
func sum(l []api.Position) *big.Int {
	n := new(big.Int)
	for _, p := range l {
		n.Add(n, big.NewInt(p.Avail))
		for _, m := range p.Marks {
			n.Add(n, big.NewInt(m.Qty))
		}
	}
	return n
}

// P20.9, and W2: a snapshot of all accounts of an asset is what was deposited less what was withdrawn; its number lies between its invocation and its return.
func TestSnapshotsAddUp(t *testing.T) {
	shown := 0
	eachGame(t, 2024, func(t *testing.T, g game, r api.Result) {
		for _, x := range r.Calls {
			if !reads(x) {
				continue
			}
			between(t, r, x)
			asset := 0
			if len(x.Op.Pairs) > 0 {
				asset = x.Op.Pairs[0].Asset
			}
			if !slices.Equal(x.Op.Pairs, proof.Keys(0, asset, 1, asset, 2, asset)) {
				continue
			}
			want, known := moved(r, asset, x.Number)
			if known && sum(x.Answer.Positions).Cmp(want) != 0 {
				t.Fatalf("%+v is %v together, not %v", x, sum(x.Answer.Positions), want)
			}
			if known && want.Sign() > 0 {
				shown++
			}
		}
	})
	if shown < 1000 {
		t.Errorf("only %d snapshots showed something", shown)
	}
}

// between is W2: no operation that returned ahead of a snapshot's invocation has a number above the one that it read, and none that was invoked behind its return one that is not above it.
func between(t *testing.T, r api.Result, s api.Call) {
	t.Helper()
	for _, x := range r.Calls {
		if x.Op.Code == api.OpSnapshot || x.Number == 0 {
			continue
		}
		if x.Returned > 0 && x.Returned < s.Invoked && x.Number > s.Number || x.Invoked > s.Returned && x.Number <= s.Number {
			t.Fatalf("%+v doesn't lie beside %+v", s, x)
		}
	}
}

// P20.10 and W3: with as many picks as Bound a run is quiet, every operation has returned, and none waits for a mutex.
func TestEnough(t *testing.T) {
	d := proof.Dice(2025)
	for n := range 2000 {
		g := throw(&d)
		if n%4 == 0 {
			g = busy(&d)
		}
		enough := engine.Bound(g.c, g.sessions)
		if enough > api.MaxPicks {
			continue
		}
		g.picks = proof.Of(&d, zeros(enough), turns(-1, enough), d.Picks(enough), d.Picks(enough), d.Picks(min(enough+d.Below(100), api.MaxPicks)))
		r := g.play(t)
		count := 0
		for _, l := range g.sessions {
			count += len(l)
		}
		if !r.Quiet || r.Stuck != 0 || r.Turns > enough || len(r.Calls) != count || slices.ContainsFunc(r.Calls, func(x api.Call) bool { return x.Returned == 0 }) {
			t.Fatalf("%+v, sessions %v, picks %v: %+v", g.c, g.sessions, g.picks, r)
		}
	}
}

// W3: a run that isn't cut leaves no task that waits for a mutex; W4: and if there is a worker, nothing that is pending is covered.
func TestNothingIsLeft(t *testing.T) {
	pending, settled := 0, 0
	eachGame(t, 2026, func(t *testing.T, g game, r api.Result) {
		if !r.Quiet {
			return
		}
		if r.Stuck != 0 || slices.ContainsFunc(r.Settles, func(x api.Settle) bool { return x.At == 0 }) {
			t.Fatalf("%d wait for a mutex; settlements %+v", r.Stuck, r.Settles)
		}
		if g.c.Workers == 0 {
			return
		}
		l, err := ledger.Load(g.c, r.State)
		if err != nil || len(l.Ready()) > 0 {
			t.Fatalf("%v are covered, and wait; %v", l.Ready(), err)
		}
		pending += len(r.State.Queue)
		settled += len(r.Settles)
	})
	if pending < 1000 || settled < 1000 {
		t.Errorf("%d were pending, %d settled", pending, settled)
	}
}

// W4: each Submit that returned was answered Settled, Pending or a refusal; what is final stays so, whatever is asked for then.
func TestFinal(t *testing.T) {
	eachGame(t, 2027, func(t *testing.T, g game, r api.Result) {
		final := map[int]int{}
		turn := func(id, status int) {
			if was := final[id]; was != api.None && was != status {
				t.Fatalf("%d became %d, which was %d", id, status, was)
			}
			if status != api.Pending {
				final[id] = status
			}
		}
		for _, e := range order(r) {
			o, a := e.call.Op, e.call.Answer
			switch {
			case e.settle > 0:
				if final[e.settle] != api.None {
					t.Fatalf("%d was settled, which was %d", e.settle, final[e.settle])
				}
				turn(e.settle, api.Settled)
			case e.call.Returned == 0 || a.Err != api.OK:
			case o.Code == api.OpSubmit:
				if a.Status != api.Settled && a.Status != api.Pending {
					t.Fatalf("%+v", e.call)
				}
				turn(o.Id, a.Status)
			case o.Code == api.OpCancel, o.Code == api.OpStatus:
				turn(o.Id, a.Status)
			}
		}
		for _, x := range r.State.Instructions {
			turn(x.Id, x.Record.Status)
		}
	})
}

// W5: a refusal changes nothing: a ledger that does what was not refused alone, in the order of the numbers, holds what the run holds.
func TestRefusalsChangeNothing(t *testing.T) {
	refused := map[api.Errno]int{}
	eachGame(t, 2028, func(t *testing.T, g game, r api.Result) {
		l, err := ledger.New(g.c)
		if err != nil {
			t.Fatal(err)
		}
		for _, e := range order(r) {
			switch {
			case e.settle > 0:
				l.Settle(e.settle)
			case e.call.Answer.Err == api.OK:
				if a := l.Do(e.call.Op); e.call.Returned > 0 && !proof.SameAnswer(a, e.call.Answer) {
					t.Fatalf("without what was refused %+v is answered %+v", e.call, a)
				}
			}
		}
		if r.Quiet && !proof.SameState(r.State, l.State()) {
			t.Fatalf("the state is %+v, without what was refused %+v", r.State, l.State())
		}
		for _, x := range r.Calls {
			refused[x.Answer.Err]++
		}
	})
	for _, no := range []api.Errno{api.ErrShort, api.ErrLong, api.ErrMany, api.ErrCode, api.ErrArg, api.ErrAccount, api.ErrAsset, api.ErrAmount, api.ErrSame, api.ErrOver, api.ErrCover, api.ErrMark, api.ErrTwice, api.ErrFull, api.ErrLost, api.ErrFinal} {
		if refused[no] < 3 {
			t.Errorf("only %d were refused by %v", refused[no], no)
		}
	}
}

// W6: in the state of a quiet run each asset is together what was deposited less what was withdrawn; and all positions are right.
func TestConservation(t *testing.T) {
	eachGame(t, 2029, func(t *testing.T, g game, r api.Result) {
		if !r.Quiet {
			return
		}
		if err := ledger.Check(g.c, r.State); err != nil {
			t.Fatalf("%+v is no state: %v", r.State, err)
		}
		for asset := range 2 {
			var l []api.Position
			for _, x := range r.State.Balances {
				if x.Key.Asset == asset {
					l = append(l, x.Position)
				}
			}
			if want, _ := moved(r, asset, 1<<62); sum(l).Cmp(want) != 0 {
				t.Fatalf("asset %d is %v together, not %v", asset, sum(l), want)
			}
		}
	})
}

// W8: a run with one session and no workers answers as the ledger, whatever the shards and the picks; its numbers are its operations' own order.
func TestOneSession(t *testing.T) {
	d := proof.Dice(2030)
	for range 300 {
		g := throw(&d)
		g.c.Workers = 0
		g.sessions = sessionsOf(slices.Concat(d.Sessions(3, 30, 8)...))
		if len(g.sessions[0]) > api.MaxOps {
			continue
		}
		for _, shards := range []int{1, 2, 3, 7, 63, 64} {
			g.c.Shards = shards
			asLedger(t, g.enough(&d))
		}
	}
}

// asLedger checks a run of one session against a ledger, call by call.
func asLedger(t *testing.T, g game) {
	t.Helper()
	r := g.play(t)
	l, err := ledger.New(g.c)
	if err != nil || !r.Quiet || len(r.Calls) != len(g.sessions[0]) || len(r.Settles) > 0 {
		t.Fatalf("%v, %+v", err, r)
	}
	given := 0
	for i, x := range r.Calls {
		o, no := judged(g.c, g.row(x))
		number, want := 0, api.Answer{Err: no}
		if no == api.OK {
			want = l.Do(o)
			if o.Code != api.OpSnapshot {
				given++
			}
			number = given
		}
		if !proof.SameCall(x, api.Call{Index: i, Op: o, Invoked: 2*i + 1, Returned: 2*i + 2, Number: number, Answer: want}) {
			t.Fatalf("%+v, sessions %v: %+v is answered %+v by the ledger, and has the number %d", g.c, g.sessions, x, want, number)
		}
	}
	if !proof.SameState(r.State, l.State()) {
		t.Fatalf("%+v, sessions %v: the state is %+v, the ledger's %+v", g.c, g.sessions, r.State, l.State())
	}
}
