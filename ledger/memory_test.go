package ledger_test

import (
	"slices"
	"testing"

	"custody/api"
	"custody/ledger"
	"custody/proof"
)

// someOps are operations of each kind, done and refused, in the ledger of the hall.
func someOps() []api.Op {
	ops := []api.Op{
		held(1, 0, 0, 1), held(1, 2, 1, 1), held(1, 2, 0, 5), held(2, 0, 0, 5), held(2, 0, 0, 6), marked(3, 1, 1, 1, 7), marked(3, 1, 1, 1, 5), marked(4, 1, 1, 1, 7), marked(4, 1, 1, 4, 7),
		swap(8, 5, 9), swap(8, 6, 9), swap(2, 5, 9), swap(0, 5, 9), submit(8), submit(8, leg(0, 2, 0, 5, 0)), ided(6, 2), ided(6, 5), ided(6, 6), ided(6, 8), ided(7, 2), ided(7, 8),
		snapshot(), snapshot(1, 1, 0, 0, 1, 1, 2, 1), snapshot(-1, 0),
	}
	for code := range 10 {
		ops = append(ops, filled(code))
	}
	return ops
}

// roomier is the ledger of the hall, with room for one more.
func roomier(t *testing.T) *ledger.Ledger {
	t.Helper()
	l, err := ledger.Load(setup(4), hall(t).l.State())
	if err != nil {
		t.Fatal(err)
	}
	return l
}

// R4: a state that is handed in is not changed, its spare room included.
func TestStatesStay(t *testing.T) {
	states := []api.State{{}, right()}
	for _, l := range flaws() {
		for _, x := range l {
			s := right()
			x.turn(&s)
			states = append(states, s)
		}
	}
	for _, of := range states {
		s := proof.RoomyState(of)
		ahead := proof.WholeState(s)
		ledger.Check(wide(), s)
		if l, err := ledger.Load(wide(), s); err == nil {
			l.Drain()
			l.Do(held(2, 0, 2, 5))
			l.Do(ided(6, 6))
			l.Do(submit(9, leg(2, 0, 0, 1, 0)))
			l.Do(marked(4, 1, 0, 1, 7))
		}
		if !proof.SameState(proof.WholeState(s), ahead) {
			t.Errorf("%+v became %+v", ahead, proof.WholeState(s))
		}
	}
}

// R4: a state that was loaded is not kept.
func TestStateIsNotKept(t *testing.T) {
	s := proof.RoomyState(right())
	l, err := ledger.Load(wide(), s)
	if err != nil {
		t.Fatal(err)
	}
	proof.SpoilState(s)
	if got := l.State(); !proof.SameState(got, right()) {
		t.Errorf("the state is %+v", got)
	}
	if got := l.Ready(); !slices.Equal(got, []int{6, 1}) {
		t.Errorf("Ready is %v", got)
	}
}

// R4: two ledgers of one state are apart.
func TestLoadedLedgersAreApart(t *testing.T) {
	s := right()
	a, err := ledger.Load(wide(), s)
	if err != nil {
		t.Fatal(err)
	}
	b, err := ledger.Load(wide(), s)
	if err != nil {
		t.Fatal(err)
	}
	a.Drain()
	a.Do(marked(4, 1, 0, 1, 7))
	if !proof.SameState(b.State(), right()) || proof.SameState(a.State(), right()) {
		t.Errorf("the states are %+v, and %+v", a.State(), b.State())
	}
}

// R4: operations that are handed in are not changed, their spare room included, and not kept.
func TestOperationsStay(t *testing.T) {
	for _, of := range someOps() {
		o := proof.RoomyOp(of)
		legs, pairs := slices.Clone(proof.Whole(o.Legs)), slices.Clone(proof.Whole(o.Pairs))
		l := roomier(t)
		answer := l.Do(o)
		behind := l.State()
		if !proof.SameOp(o, of) || !slices.Equal(proof.Whole(o.Legs), legs) || !slices.Equal(proof.Whole(o.Pairs), pairs) {
			t.Errorf("%+v became %+v", of, o)
		}
		other := roomier(t)
		other.Do(of)
		want := other.Do(of)
		proof.SpoilOp(o)
		if !proof.SameState(l.State(), behind) || !proof.SameAnswer(l.Do(of), want) {
			t.Errorf("%+v, answered %+v, is kept", of, answer)
		}
		l.Drain()
		other.Drain()
		if !proof.SameState(l.State(), other.State()) {
			t.Errorf("%+v is kept", of)
		}
	}
}

// apart checks that an answer shares no memory with what a ledger keeps, nor with another answer: it is overwritten, and both stay.
func apart[T any](t *testing.T, of string, ask func(l *ledger.Ledger) T, same func(a, b T) bool, overrun, spoil func(x T)) {
	t.Helper()
	for n, l := range []*ledger.Ledger{roomier(t), hall(t).l} {
		ahead := l.State()
		want := ask(l)
		one, two := ask(l), ask(l)
		if overrun(one); !same(one, want) { // no two lists of it share any
			t.Errorf("%d: lists of %s share memory", n, of)
		}
		if spoil(one); !same(two, want) || !same(ask(l), want) || !proof.SameState(l.State(), ahead) {
			t.Errorf("%d: %s is shared", n, of)
		}
		spoil(want)
		l.Do(held(1, 0, 0, 1))
		l.Do(submit(8, leg(2, 0, 1, 1, 0)))
		l.Do(marked(4, 1, 1, 1, 7))
		l.Do(ided(6, 4))
		l.Drain()
		fresh := hall(t).l
		if n == 0 {
			fresh = roomier(t)
		}
		if !same(two, ask(fresh)) { // what was answered stays, whatever is done then
			t.Errorf("%d: %s became %+v", n, of, two)
		}
	}
}

func spoilIds(l []int) {
	for i := range proof.Whole(l) {
		proof.Whole(l)[i] = -1
	}
}

// R4: what is answered is new memory.
func TestAnswersAreNew(t *testing.T) {
	apart(t, "State", (*ledger.Ledger).State, proof.SameState, proof.OverrunState, proof.SpoilState)
	spare := func(l []int) { spoilIds(l[len(l):]) }
	apart(t, "Ready", (*ledger.Ledger).Ready, slices.Equal[[]int], spare, spoilIds)
	shot := snapshot(1, 1, 0, 0, 1, 1, 2, 1, 2, 0)
	apart(t, "Snapshot", func(l *ledger.Ledger) api.Answer { return l.Do(shot) }, proof.SameAnswer, proof.OverrunAnswer, proof.SpoilAnswer)
	twice := roomier(t).Do(snapshot(1, 1, 1, 1)).Positions
	if twice[0].Marks[0].Qty = 99; twice[1].Marks[0].Qty == 99 {
		t.Error("two positions of one pair share their marks")
	}
}

// TestDrainIsNew: what Drain answers is no part of what is kept.
func TestDrainIsNew(t *testing.T) {
	one := leg(0, 1, 0, 1, 0)
	s := waiting(stock(), record(5, api.Pending, one), record(3, api.Pending, leg(0, 1, 0, 4, 0)), record(4, api.Pending, leg(2, 0, 0, 1, 0)), record(2, api.Pending, leg(2, 0, 0, 1, 0)))
	x := loaded(t, setup(4), s)
	spoilIds(x.drain())
	x.agrees("Drain")
	if s := x.l.State(); !slices.Equal(s.Queue, []int{4, 2}) {
		t.Errorf("the queue is %v", s.Queue)
	}
}

// TestStatesOfARun: a state that was told stays as it is, while the ledger goes on.
func TestStatesOfARun(t *testing.T) {
	d := newDice(11)
	for range 200 {
		x := loaded(t, setup(3), d.state(3))
		var told, copies []api.State
		for range 30 {
			s := x.l.State()
			told, copies = append(told, s), append(copies, proof.RoomyState(s))
			d.ask(x)
		}
		for n := range told {
			if !proof.SameState(told[n], copies[n]) {
				t.Fatalf("the state %d was %+v, and became %+v", n, copies[n], told[n])
			}
		}
	}
}

// TestOverwrittenAtOnce: who overwrites all that is told, and all that was handed in, changes nothing of what is answered then.
func TestOverwrittenAtOnce(t *testing.T) {
	d := newDice(12)
	for range 300 {
		x := loaded(t, setup(3), d.state(3))
		for range 30 {
			o := proof.RoomyOp(d.op(x))
			x.b.Do(x.c, o, len(x.b.Queue) < x.c.Queue)
			proof.SpoilAnswer(x.l.Do(o))
			proof.SpoilOp(o)
			spoilIds(x.l.Ready())
			proof.SpoilState(x.l.State())
			x.agrees(o)
			if d.Below(4) == 0 {
				x.b.Drain()
				spoilIds(x.l.Drain())
				x.agrees("Drain")
			}
		}
	}
}

// R3: nil and an empty list are the same.
func TestNoLists(t *testing.T) {
	empty := api.State{Balances: []api.Balance{}, Instructions: []api.Instruction{}, Queue: []int{}}
	checks(t, wide(), empty, api.OK)
	checks(t, wide(), api.State{Queue: make([]int, 0, 9)}, api.OK)
	for _, marks := range [][]api.Mark{nil, {}, make([]api.Mark, 0, 3)} {
		checks(t, wide(), state([]api.Balance{{Key: key(0, 0), Position: api.Position{Avail: 5, Marks: marks}}}), api.OK)
		checks(t, wide(), state([]api.Balance{{Key: key(0, 0), Position: api.Position{Marks: marks}}}), api.ErrShort)
	}
	for _, legs := range [][]api.Leg{nil, {}, make([]api.Leg, 0, 3)} {
		checks(t, wide(), state(nil, api.Instruction{Id: 1, Record: api.Record{Status: api.Pending, Legs: legs}}), api.ErrShort)
		x := hall(t)
		x.steps(step{api.Op{Code: api.OpSubmit, Id: 9, Legs: legs}, no(api.ErrShort)}, step{api.Op{Code: api.OpCancel, Id: 4, Legs: legs}, said(api.Cancelled)})
	}
	for _, pairs := range [][]api.Key{nil, {}, make([]api.Key, 0, 3)} {
		hall(t).steps(step{api.Op{Code: api.OpSnapshot, Pairs: pairs}, api.Answer{}}, step{api.Op{Code: api.OpDeposit, Qty: 1, Pairs: pairs}, said(0)})
	}
}

// R5: what is answered hangs on the arguments, and on what was asked of this ledger before, alone.
func TestSameEachTime(t *testing.T) {
	for seed := range 60 {
		var runs [2][]api.Answer
		var states [2]api.State
		var ready [2][]int
		for n := range runs {
			d := newDice(100 + seed)
			x := loaded(t, setup(2), d.state(2))
			for range 25 {
				o := d.op(x)
				if n == 1 {
					hall(t).drain() // another ledger is asked meanwhile
					o = proof.RoomyOp(o)
				}
				runs[n] = append(runs[n], x.do(o))
				ready[n] = append(ready[n], x.ready()...)
			}
			states[n] = x.l.State()
		}
		if !slices.EqualFunc(runs[0], runs[1], proof.SameAnswer) || !proof.SameState(states[0], states[1]) || !slices.Equal(ready[0], ready[1]) {
			t.Fatalf("%d: the answers are %+v, then %+v", seed, runs[0], runs[1])
		}
	}
}
