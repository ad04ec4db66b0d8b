package ledger_test

import (
	"math/big"
	"slices"
	"testing"

	"custody/api"
	"custody/ledger"
	"custody/proof"
)

// dice throw what is asked of a ledger.
type dice struct{ proof.Dice }

func newDice(seed int) *dice { return &dice{proof.Dice(seed)} }

// state is one that is right, of three accounts, two assets and a queue of so many.
func (d *dice) state(queue int) api.State {
	var s api.State
	for account := range 3 {
		for asset := range 2 {
			if p := d.Position(); d.Below(3) > 0 && (p.Avail > 0 || len(p.Marks) > 0) {
				s.Balances = append(s.Balances, holds(account, asset, p))
			}
		}
	}
	for id := 1; id <= 4; id++ {
		status := d.Below(4)
		if status == api.Pending && len(s.Queue) == queue {
			status = api.None
		}
		if status == api.None {
			continue
		}
		legs := d.Legs(3)
		for i := range legs {
			if d.Below(3) > 0 { // most that wait need little: so that some are ready, and make others ready
				legs[i].Qty = 1 + int64(d.Below(9))
			}
		}
		s.Instructions = append(s.Instructions, record(id, status, legs...))
		if status == api.Pending {
			at := d.Below(len(s.Queue) + 1)
			s.Queue = slices.Insert(s.Queue, at, id)
		}
	}
	return s
}

// op is an operation near to what is held; its id is one of few.
func (d *dice) op(x *twin) api.Op {
	o := d.Op(x.b.Position)
	if o.Id > 0 && o.Id < 5 {
		o.Id = 1 + d.Below(12)
	}
	for range d.Below(4) {
		o.Pairs = append(o.Pairs, key(d.Below(3), d.Below(2)))
	}
	return o
}

// ask asks one thing of a twin.
func (d *dice) ask(x *twin) {
	x.t.Helper()
	switch d.Below(12) {
	case 0:
		x.ready()
	case 1:
		x.drain()
	case 2, 3:
		x.settle(proof.Of(&d.Dice, 1+d.Below(12), 1+d.Below(12), d.Number()))
	case 4:
		x.total(d.Below(3))
	default:
		x.do(d.op(x))
	}
}

// TestManyRuns holds many ledgers, asked on and on, against the reckoning; a refusal of each number is among the answers.
func TestManyRuns(t *testing.T) {
	d := newDice(1)
	errs, statuses, settled := map[api.Errno]int{}, map[[2]int]int{}, 0
	for range 1500 {
		queue := d.Below(5)
		x := loaded(t, setup(queue), d.state(queue))
		for range 50 {
			o := d.op(x)
			a := x.do(o)
			errs[a.Err]++
			if a.Err == api.OK {
				statuses[[2]int{o.Code, a.Status}]++
			}
			if d.Below(4) == 0 {
				settled += len(x.drain())
			}
			x.ready()
		}
	}
	for _, e := range []api.Errno{api.OK, api.ErrArg, api.ErrShort, api.ErrMany, api.ErrOver, api.ErrLost, api.ErrTwice, api.ErrCode, api.ErrAccount, api.ErrAsset, api.ErrAmount, api.ErrSame, api.ErrCover, api.ErrMark, api.ErrFull, api.ErrFinal} {
		if errs[e] < 20 {
			t.Errorf("%v was answered %d times", e, errs[e])
		}
	}
	for _, s := range [][2]int{{1, 0}, {2, 0}, {3, 0}, {4, 0}, {5, api.Pending}, {5, api.Settled}, {6, api.Cancelled}, {7, api.Pending}, {7, api.Settled}, {7, api.Cancelled}, {8, 0}} {
		if statuses[s] < 200 {
			t.Errorf("the code %d was answered %d only %d times", s[0], s[1], statuses[s])
		}
	}
	if settled < 500 {
		t.Errorf("only %d were drained", settled)
	}
}

// TestAnyOperations: whatever is handed in, malformed too, is answered, and what is refused changes nothing.
func TestAnyOperations(t *testing.T) {
	d := newDice(2)
	x := loaded(t, setup(2), d.state(2))
	for range 20000 {
		o := d.AnyOp()
		ahead := x.l.State()
		if a := x.do(o); a.Err != api.OK {
			x.has(ahead)
		}
	}
}

// P18.10: refusals and questions leave the state as it was.
func TestNothingChanges(t *testing.T) {
	d := newDice(3)
	seen := map[string]int{}
	for range 4000 {
		queue := d.Below(4)
		l, err := ledger.Load(setup(queue), d.state(queue))
		if err != nil {
			t.Fatal(err)
		}
		ahead := l.State()
		x := &twin{t, setup(queue), l, proof.BookOf(ahead)}
		same := func(of string) {
			t.Helper()
			if seen[of]++; !proof.SameState(l.State(), ahead) {
				t.Fatalf("behind %s the state is %+v; it was %+v", of, l.State(), ahead)
			}
		}
		l.Ready()
		same("Ready")
		l.Total(d.Below(3))
		same("Total")
		for range 10 {
			o := d.op(x)
			switch a := l.Do(o); {
			case a.Err != api.OK:
				same("a refusal")
			case o.Code == api.OpStatus:
				same("Status")
			case o.Code == api.OpSnapshot:
				same("Snapshot")
			}
			ahead = l.State()
			if !l.Settle(d.Below(12)) {
				same("Settle")
			}
			ahead = l.State()
		}
	}
	for _, of := range []string{"Ready", "Total", "a refusal", "Status", "Snapshot", "Settle"} {
		if seen[of] < 500 {
			t.Errorf("only %d of %s", seen[of], of)
		}
	}
}

// TestSettleThatIsFalse: such a one changes nothing, in each state of a run.
func TestSettleThatIsFalse(t *testing.T) {
	d := newDice(4)
	refused := 0
	for range 600 {
		x := loaded(t, setup(3), d.state(3))
		for range 15 {
			d.ask(x)
			for id := -1; id <= 13; id++ {
				ahead := x.l.State()
				if ready := slices.Contains(x.l.Ready(), id); x.l.Settle(id) != ready {
					t.Fatalf("in %+v: Settle(%d) is %v", ahead, id, !ready)
				} else if ready {
					x.b.Settle(id)
				} else if refused++; !proof.SameState(x.l.State(), ahead) {
					t.Fatalf("Settle(%d) turns %+v to %+v", id, ahead, x.l.State())
				}
			}
		}
	}
	if refused < 10000 {
		t.Errorf("only %d were refused", refused)
	}
}

// P18.11: Check takes every State, and a ledger that is loaded with it goes on just as the one whose state it is.
func TestStateSaysAll(t *testing.T) {
	d := newDice(5)
	for range 800 {
		x := newTwin(t, setup(d.Below(4)))
		for range 40 {
			d.ask(x)
		}
		s := x.l.State()
		checks(t, x.c, s, api.OK)
		y := loaded(t, x.c, s)
		for range 15 {
			o, id := d.op(x), 1+d.Below(12)
			if a, b := x.l.Do(o), y.l.Do(o); !proof.SameAnswer(a, b) {
				t.Fatalf("from %+v: Do(%+v) is %+v, and of the loaded one %+v", s, o, a, b)
			}
			if a, b := x.l.Ready(), y.l.Ready(); !slices.Equal(a, b) {
				t.Fatalf("from %+v: Ready is %v, and of the loaded one %v", s, a, b)
			}
			if a, b := x.l.Settle(id), y.l.Settle(id); a != b {
				t.Fatalf("from %+v: Settle(%d) is %v, and of the loaded one %v", s, id, a, b)
			}
			if !proof.SameState(x.l.State(), y.l.State()) {
				t.Fatalf("from %+v behind %+v it is %+v, and the loaded one %+v", s, o, x.l.State(), y.l.State())
			}
		}
		if a, b := x.l.Drain(), y.l.Drain(); !slices.Equal(a, b) || !proof.SameState(x.l.State(), y.l.State()) {
			t.Fatalf("from %+v: Drain is %v, and of the loaded one %v", s, a, b)
		}
	}
}

// P18.12: totals are what was deposited less what was withdrawn, whatever else is asked; and all positions are right.
func TestConservation(t *testing.T) {
	d := newDice(6)
	moved := 0
	for range 500 {
		queue := d.Below(5)
		x := loaded(t, setup(queue), d.state(queue))
		sums := []*big.Int{x.b.Sum(0), x.b.Sum(1)}
		for range 60 {
			o := d.op(x)
			switch a := x.l.Do(o); {
			case a.Err != api.OK:
			case o.Code == api.OpDeposit:
				sums[o.Asset].Add(sums[o.Asset], big.NewInt(o.Qty))
			case o.Code == api.OpWithdraw:
				sums[o.Asset].Sub(sums[o.Asset], big.NewInt(o.Qty))
			}
			if d.Below(5) == 0 {
				moved += len(x.l.Drain())
			}
			for asset, want := range sums {
				if high, low := x.l.Total(asset); proof.Wide(high, low).Cmp(want) != 0 {
					t.Fatalf("behind %+v Total(%d) is %d, %d; want %v", o, asset, high, low, want)
				}
			}
			for _, b := range x.l.State().Balances {
				if wrongPosition(b.Position) != api.OK {
					t.Fatalf("behind %+v the balance is %+v", o, b)
				}
			}
			x.b = proof.BookOf(x.l.State()) // so that what is thrown next is near to what is held
		}
	}
	if moved < 100 {
		t.Errorf("only %d were drained", moved)
	}
}

// records are those of a state, by their ids.
func records(s api.State) map[int]api.Record {
	out := map[int]api.Record{}
	for _, x := range s.Instructions {
		out[x.Id] = x.Record
	}
	return out
}

// P18.13: what is final stays; no record is lost, and no legs change.
func TestFinal(t *testing.T) {
	d := newDice(7)
	turned := map[int]int{}
	for range 400 {
		x := loaded(t, setup(4), d.state(4))
		for range 40 {
			ahead := records(x.l.State())
			d.ask(x)
			behind := records(x.l.State())
			for id, was := range ahead {
				is := behind[id]
				if !slices.Equal(was.Legs, is.Legs) || was.Status != api.Pending && is.Status != was.Status || is.Status == api.None {
					t.Fatalf("%d was %+v, and is %+v", id, was, is)
				}
				if was.Status != is.Status {
					turned[is.Status]++
				}
			}
		}
	}
	if turned[api.Settled] < 100 || turned[api.Cancelled] < 100 {
		t.Errorf("records became %v", turned)
	}
}

// shift is what legs bring to each key, less what they take.
func shift(legs []api.Leg) map[api.Key]*big.Int {
	out := map[api.Key]*big.Int{}
	at := func(account, asset int) *big.Int {
		if out[key(account, asset)] == nil {
			out[key(account, asset)] = new(big.Int)
		}
		return out[key(account, asset)]
	}
	for _, l := range legs {
		to, from := at(l.To, l.Asset), at(l.From, l.Asset)
		to.Add(to, big.NewInt(l.Qty))
		from.Sub(from, big.NewInt(l.Qty))
	}
	return out
}

// shifted checks that each total is the one that was, and what a shift brings.
func shifted(t *testing.T, ahead, behind api.State, by map[api.Key]*big.Int) {
	t.Helper()
	a, b := proof.BookOf(ahead), proof.BookOf(behind)
	for account := range 3 {
		for asset := range 2 {
			k := key(account, asset)
			want := new(big.Int).SetUint64(a.Total(k))
			if by[k] != nil {
				want.Add(want, by[k])
			}
			if want.Cmp(new(big.Int).SetUint64(b.Total(k))) != 0 {
				t.Fatalf("%v was %v in %+v, and is %v in %+v; want %v", k, a.Total(k), ahead, b.Total(k), behind, want)
			}
		}
	}
}

// P18.14: all legs of an instruction move, or none; what was answered Pending was not covered.
func TestAllOrNone(t *testing.T) {
	d := newDice(8)
	whole, none := 0, 0
	for range 6000 {
		queue := d.Below(4)
		x := loaded(t, setup(queue), d.state(queue))
		ahead := x.l.State()
		o := d.op(x)
		o.Code = api.OpSubmit
		switch a := x.l.Do(o); {
		case a.Status == api.Settled:
			whole++
			shifted(t, ahead, x.l.State(), shift(o.Legs))
		default:
			none++
			shifted(t, ahead, x.l.State(), nil)
			if a.Status == api.Pending && (slices.Contains(x.l.Ready(), o.Id) || x.l.Settle(o.Id)) {
				t.Fatalf("%+v is answered Pending in %+v, and is covered", o, ahead)
			}
		}
		for _, i := range x.l.State().Instructions {
			ahead = x.l.State()
			if x.l.Settle(i.Id) {
				whole++
				shifted(t, ahead, x.l.State(), shift(i.Record.Legs))
			} else {
				none++
				shifted(t, ahead, x.l.State(), nil)
			}
		}
	}
	if whole < 1000 || none < 1000 {
		t.Errorf("%d moved, %d not", whole, none)
	}
}

// P18.15: behind Drain none is ready; Drain is Settle of the first of Ready, again and again.
func TestDrainLeavesNothing(t *testing.T) {
	d := newDice(9)
	drained := 0
	for range 3000 {
		s := d.state(4)
		x, y := loaded(t, setup(4), s), loaded(t, setup(4), s)
		var one []int
		for ready := y.l.Ready(); len(ready) > 0; ready = y.l.Ready() {
			if !y.l.Settle(ready[0]) {
				t.Fatalf("%d is ready, and doesn't settle", ready[0])
			}
			one = append(one, ready[0])
		}
		got := x.l.Drain()
		drained += len(got)
		if !slices.Equal(got, one) || !proof.SameState(x.l.State(), y.l.State()) || len(x.l.Ready()) > 0 || len(x.l.Drain()) > 0 {
			t.Fatalf("Drain of %+v is %v; want %v", s, got, one)
		}
		x.b = proof.BookOf(x.l.State())
		for range 15 { // it stays so behind what takes no cover to others
			o := d.op(x)
			if a := x.l.Do(o); a.Err == api.OK && o.Code < api.OpCancel {
				break
			}
			if ready := x.l.Ready(); len(ready) > 0 {
				t.Fatalf("behind %+v %v are ready", o, ready)
			}
		}
	}
	if drained < 500 {
		t.Errorf("only %d were drained", drained)
	}
}

// W8: shards and workers are not seen.
func TestShardsAreNotSeen(t *testing.T) {
	d := newDice(10)
	for range 100 {
		s := d.state(2)
		c := setup(2)
		c.Shards, c.Workers = 1+d.Below(64), d.Below(9)
		x, y := loaded(t, setup(2), s), loaded(t, c, s)
		for range 30 {
			o := d.op(x)
			if a, b := x.do(o), y.do(o); !proof.SameAnswer(a, b) {
				t.Fatalf("Do(%+v) is %+v, and %+v", o, a, b)
			}
			if a, b := x.drain(), y.drain(); !slices.Equal(a, b) {
				t.Fatalf("Drain is %v, and %v", a, b)
			}
		}
	}
}
