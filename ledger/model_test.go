package ledger_test

import (
	"math"
	"slices"
	"testing"

	"custody/api"
	"custody/ledger"
	"custody/proof"
)

const (
	most  = api.MaxAmount
	least = math.MinInt64
)

var (
	pos      = proof.Position
	leg      = proof.Leg
	holds    = proof.Balance
	held     = proof.Held
	marked   = proof.Marked
	submit   = proof.Submit
	ided     = proof.Identified
	snapshot = proof.Snapshot
	keys     = proof.Keys
)

func key(account, asset int) api.Key { return api.Key{Account: account, Asset: asset} }

func no(err api.Errno) api.Answer { return api.Answer{Err: err} }

func said(status int) api.Answer { return api.Answer{Status: status} }

// setup is the configuration of a small ledger whose queue has room for so many.
func setup(queue int) api.Config { return api.Config{Accounts: 3, Assets: 2, Queue: queue, Shards: 1} }

func record(id, status int, legs ...api.Leg) api.Instruction {
	return api.Instruction{Id: id, Record: api.Record{Status: status, Legs: legs}}
}

// state is one of these balances and instructions, whose pending ones wait in the order of their ids.
func state(balances []api.Balance, instructions ...api.Instruction) api.State {
	s := api.State{Balances: balances, Instructions: instructions}
	for _, x := range instructions {
		if x.Record.Status == api.Pending {
			s.Queue = append(s.Queue, x.Id)
		}
	}
	return s
}

// twin is a ledger beside a second reckoning of it: all that is asked of the one is asked of the other, and each time both hold the same then.
type twin struct {
	t *testing.T
	c api.Config
	l *ledger.Ledger
	b *proof.Book
}

func newTwin(t *testing.T, c api.Config) *twin {
	t.Helper()
	return loaded(t, c, api.State{})
}

// loaded is a twin that begins with a state.
func loaded(t *testing.T, c api.Config, s api.State) *twin {
	t.Helper()
	l, err := ledger.Load(c, s)
	if err != nil {
		t.Fatalf("Load(%+v, %+v) is %v", c, s, err)
	}
	x := &twin{t, c, l, proof.BookOf(s)}
	x.agrees("Load")
	return x
}

// agrees checks that the ledger holds what the reckoning says.
func (x *twin) agrees(behind any) {
	x.t.Helper()
	if got, want := x.l.State(), x.b.State(); !proof.SameState(got, want) {
		x.t.Fatalf("behind %+v the state is %+v; want %+v", behind, got, want)
	}
}

func (x *twin) do(o api.Op) api.Answer {
	x.t.Helper()
	want := x.b.Do(x.c, o, len(x.b.Queue) < x.c.Queue)
	got := x.l.Do(o)
	if !proof.SameAnswer(got, want) {
		x.t.Fatalf("in %+v: Do(%+v) is %+v; want %+v", x.b.State(), o, got, want)
	}
	x.agrees(o)
	return got
}

func (x *twin) settle(id int) bool {
	x.t.Helper()
	want := x.b.Settle(id)
	got := x.l.Settle(id)
	if got != want {
		x.t.Fatalf("in %+v: Settle(%d) is %v", x.b.State(), id, got)
	}
	x.agrees(id)
	return got
}

func (x *twin) ready() []int {
	x.t.Helper()
	got, want := x.l.Ready(), x.b.Ready()
	if !slices.Equal(got, want) {
		x.t.Fatalf("in %+v: Ready is %v; want %v", x.b.State(), got, want)
	}
	x.agrees("Ready")
	return got
}

func (x *twin) drain() []int {
	x.t.Helper()
	ahead := x.b.State()
	got, want := x.l.Drain(), x.b.Drain()
	if !slices.Equal(got, want) {
		x.t.Fatalf("in %+v: Drain is %v; want %v", ahead, got, want)
	}
	x.agrees("Drain")
	return got
}

func (x *twin) total(asset int) {
	x.t.Helper()
	high, low := x.l.Total(asset)
	if got, want := proof.Wide(high, low), x.b.Sum(asset); got.Cmp(want) != 0 {
		x.t.Fatalf("in %+v: Total(%d) is %v; want %v", x.b.State(), asset, got, want)
	}
	x.agrees("Total")
}

// step is an operation and what is written down of its answer.
type step struct {
	o api.Op
	a api.Answer
}

// steps does operations one behind the other, and checks their answers against what is written down too.
func (x *twin) steps(l ...step) {
	x.t.Helper()
	for n, s := range l {
		if a := x.do(s.o); !proof.SameAnswer(a, s.a) {
			x.t.Errorf("%d: Do(%+v) is %+v; want %+v", n, s.o, a, s.a)
		}
	}
}

// has checks the state against what is written down.
func (x *twin) has(s api.State) {
	x.t.Helper()
	if got := x.l.State(); !proof.SameState(got, s) {
		x.t.Errorf("the state is %+v; want %+v", got, s)
	}
}

// wrongPosition is what balance.Check tells, once more: the number alone.
func wrongPosition(p api.Position) api.Errno {
	if p.Avail < 0 {
		return api.ErrArg
	}
	if len(p.Marks) > 8 {
		return api.ErrMany
	}
	name := 0
	for _, m := range p.Marks {
		if proof.Outside(m.Name, name+1, 65536) || m.Qty <= 0 {
			return api.ErrArg
		}
		name = m.Name
	}
	sum := uint64(p.Avail)
	for _, m := range p.Marks {
		if sum += uint64(m.Qty); sum > most {
			return api.ErrOver
		}
	}
	return api.OK
}

// fits is what guard.Fits tells, once more.
func fits(c api.Config) bool {
	return !proof.Outside(c.Accounts, 1, 65536) && !proof.Outside(c.Assets, 1, 65536) && !proof.Outside(c.Queue, 0, 256) && !proof.Outside(c.Shards, 1, 64) && !proof.Outside(c.Workers, 0, 8)
}

// first is the first of these that isn't OK.
func first(l ...api.Errno) api.Errno {
	for _, e := range l {
		if e != api.OK {
			return e
		}
	}
	return api.OK
}

// when is an error, if something is so.
func when(wrong bool, e api.Errno) api.Errno {
	if wrong {
		return e
	}
	return api.OK
}

// judge is the first thing that is wrong with a state: a second reckoning of what the chapter lists.
func judge(c api.Config, s api.State) api.Errno {
	if !fits(c) {
		return api.ErrArg
	}
	var l []api.Errno
	for i, x := range s.Balances {
		l = append(l, when(proof.Outside(x.Key.Account, 0, c.Accounts-1), api.ErrAccount), when(proof.Outside(x.Key.Asset, 0, c.Assets-1), api.ErrAsset),
			when(i > 0 && !proof.Behind(x.Key, s.Balances[max(i, 1)-1].Key), api.ErrArg), wrongPosition(x.Position), when(x.Position.Avail == 0 && len(x.Position.Marks) == 0, api.ErrShort))
	}
	id := 0
	for _, x := range s.Instructions {
		l = append(l, when(proof.Outside(x.Id, id+1, 1<<40), api.ErrArg), when(proof.Outside(x.Record.Status, 1, 3), api.ErrKind), proof.Judge(c, submit(x.Id, x.Record.Legs...)))
		id = min(max(x.Id, id), 1<<40) // so that it stays a number to which one can be put
	}
	l = append(l, when(len(s.Queue) > c.Queue, api.ErrMany))
	for i, id := range s.Queue {
		l = append(l, when(!pending(s, id), api.ErrLost), when(slices.Contains(s.Queue[:i], id), api.ErrTwice))
	}
	for _, x := range s.Instructions {
		l = append(l, when(x.Record.Status == 1 && !slices.Contains(s.Queue, x.Id), api.ErrShort))
	}
	return first(l...)
}

// pending tells whether an id is that of an instruction that waits.
func pending(s api.State, id int) bool {
	return slices.ContainsFunc(s.Instructions, func(x api.Instruction) bool { return x.Id == id && x.Record.Status == 1 })
}

// checks checks Check and Load of a state against what is written down, and against the reckoning.
func checks(t *testing.T, c api.Config, s api.State, want api.Errno) {
	t.Helper()
	if again := judge(c, s); again != want {
		t.Fatalf("of %+v, %+v the reckoning tells %v; want %v", c, s, again, want)
	}
	if err := ledger.Check(c, s); !proof.Tells(err, want) {
		t.Fatalf("Check(%+v, %+v) is %v; want %v", c, s, err, want)
	}
	l, err := ledger.Load(c, s)
	if !proof.Tells(err, want) || (l == nil) != (want != api.OK) {
		t.Fatalf("Load(%+v, %+v) is %v, %v; want %v", c, s, l, err, want)
	}
	if l != nil && !proof.SameState(l.State(), s) {
		t.Fatalf("Load(%+v, %+v) holds %+v", c, s, l.State())
	}
}
