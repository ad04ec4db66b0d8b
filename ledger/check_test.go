package ledger_test

import (
	"math"
	"slices"
	"testing"

	"custody/api"
	"custody/ledger"
	"custody/proof"
)

// P18.2

// wide is the configuration of the states here.
func wide() api.Config { return api.Config{Accounts: 4, Assets: 3, Queue: 3, Shards: 1} }

// right is a state of that configuration in which nothing is wrong.
func right() api.State {
	return api.State{
		Balances: []api.Balance{holds(0, 2, pos(5)), holds(1, 0, pos(0, 7, 2)), holds(1, 1, pos(1, 1, 1, 65536, 1)), holds(3, 0, pos(most-1, 4, 1))},
		Instructions: []api.Instruction{
			record(1, api.Pending, leg(0, 1, 2, 5, 0)), record(4, api.Settled, leg(1, 2, 0, 1, 7), leg(2, 1, 1, most, 65536)),
			record(6, api.Pending, leg(3, 0, 0, 9, 0)), record(1<<40, api.Cancelled, leg(0, 3, 1, 1, 0)),
		},
		Queue: []int{6, 1},
	}
}

func TestCheckRight(t *testing.T) {
	for _, s := range []api.State{
		{}, right(),
		{Balances: []api.Balance{holds(0, 0, pos(1))}},
		{Balances: []api.Balance{holds(0, 0, pos(0, 1, 1))}},
		{Balances: []api.Balance{holds(0, 0, pos(most)), holds(0, 1, pos(0, 1, most)), holds(3, 2, pos(most-8, 1, 1, 2, 1, 3, 1, 4, 1, 5, 1, 6, 1, 7, 1, 8, 1))}},
		state(nil, record(1, api.Settled, leg(0, 1, 0, 1, 0))),
		state(nil, record(1<<40, api.Pending, leg(0, 1, 0, most, 65536), leg(0, 1, 0, most, 65536), leg(3, 2, 2, 1, 0), leg(3, 2, 2, 1, 0))),
		state([]api.Balance{holds(0, 0, pos(5))}, record(1, api.Pending, leg(0, 1, 0, 5, 0))), // one that is ready may wait
		state([]api.Balance{holds(0, 0, pos(5)), holds(1, 0, pos(most))}, record(1, api.Pending, leg(0, 1, 0, 5, 0))),
	} {
		checks(t, wide(), s, api.OK)
	}
}

// flaw is one thing that is wrong.
type flaw struct {
	turn func(s *api.State)
	no   api.Errno
}

// wrongBalances are flaws of the balance at a place, in the order in which they are looked at.
func wrongBalances(at int) []flaw {
	key := func(account, asset int) func(s *api.State) {
		return func(s *api.State) { s.Balances[at].Key = api.Key{Account: account, Asset: asset} }
	}
	has := func(p api.Position) func(s *api.State) {
		return func(s *api.State) { s.Balances[at].Position = p }
	}
	l := []flaw{
		{key(-1, 0), api.ErrAccount}, {key(-1, 4), api.ErrAccount}, {key(4, 0), api.ErrAccount}, {key(math.MinInt, 0), api.ErrAccount}, {key(math.MaxInt, 0), api.ErrAccount}, {key(65536, -1), api.ErrAccount},
		{key(3, -1), api.ErrAsset}, {key(3, 3), api.ErrAsset}, {key(0, math.MinInt), api.ErrAsset}, {key(0, math.MaxInt), api.ErrAsset},
	}
	if at > 0 {
		l = append(l, flaw{key(0, 0), api.ErrArg}, flaw{func(s *api.State) { s.Balances[at].Key = s.Balances[at-1].Key }, api.ErrArg}, flaw{func(s *api.State) { s.Balances[at-1], s.Balances[at] = s.Balances[at], s.Balances[at-1] }, api.ErrArg})
	}
	return append(l,
		flaw{has(pos(-1)), api.ErrArg}, flaw{has(pos(least)), api.ErrArg}, flaw{has(pos(-1, 1, 1)), api.ErrArg},
		flaw{has(pos(1, 1, 1, 2, 1, 3, 1, 4, 1, 5, 1, 6, 1, 7, 1, 8, 1, 9, 1)), api.ErrMany},
		flaw{has(pos(1, 0, 1)), api.ErrArg}, flaw{has(pos(1, 65537, 1)), api.ErrArg}, flaw{has(pos(1, 7, 1, 7, 1)), api.ErrArg}, flaw{has(pos(1, 7, 1, 6, 1)), api.ErrArg}, flaw{has(pos(1, 7, 0)), api.ErrArg}, flaw{has(pos(1, 7, -1)), api.ErrArg},
		flaw{has(pos(most, 7, 1)), api.ErrOver}, flaw{has(pos(0, 7, most, 8, most)), api.ErrOver}, flaw{has(pos(most-1, 7, 1, 8, 1)), api.ErrOver},
		flaw{has(pos(0)), api.ErrShort}, flaw{has(api.Position{Marks: []api.Mark{}}), api.ErrShort})
}

// wrongInstructions are flaws of the instruction at a place.
func wrongInstructions(at int) []flaw {
	id := func(n int) func(s *api.State) {
		return func(s *api.State) { s.Instructions[at].Id = n }
	}
	status := func(n int) func(s *api.State) {
		return func(s *api.State) { s.Instructions[at].Record.Status = n }
	}
	legs := func(l ...api.Leg) func(s *api.State) {
		return func(s *api.State) { s.Instructions[at].Record.Legs = l }
	}
	l := []flaw{{id(0), api.ErrArg}, {id(-1), api.ErrArg}, {id(math.MinInt), api.ErrArg}, {id(1<<40 + 1), api.ErrArg}, {id(math.MaxInt), api.ErrArg}}
	if at > 0 {
		l = append(l, flaw{id(1), api.ErrArg}, flaw{func(s *api.State) { s.Instructions[at].Id = s.Instructions[at-1].Id }, api.ErrArg})
	}
	good := leg(0, 1, 0, 1, 0)
	return append(l,
		flaw{status(api.None), api.ErrKind}, flaw{status(4), api.ErrKind}, flaw{status(-1), api.ErrKind}, flaw{status(math.MaxInt), api.ErrKind}, flaw{status(math.MinInt), api.ErrKind},
		flaw{legs(), api.ErrShort}, flaw{legs([]api.Leg{}...), api.ErrShort}, flaw{legs(good, good, good, good, good), api.ErrMany},
		flaw{legs(leg(-1, 1, 0, 1, 0)), api.ErrAccount}, flaw{legs(leg(4, 1, 0, 1, 0)), api.ErrAccount}, flaw{legs(good, leg(0, -1, 0, 1, 0)), api.ErrAccount}, flaw{legs(leg(0, 4, 0, 1, 0)), api.ErrAccount},
		flaw{legs(leg(1, 1, 0, 1, 0)), api.ErrSame}, flaw{legs(leg(0, 1, -1, 1, 0)), api.ErrAsset}, flaw{legs(good, good, leg(0, 1, 3, 1, 0)), api.ErrAsset},
		flaw{legs(leg(0, 1, 0, 0, 0)), api.ErrAmount}, flaw{legs(leg(0, 1, 0, least, 0)), api.ErrAmount},
		flaw{legs(leg(0, 1, 0, 1, -1)), api.ErrMark}, flaw{legs(good, good, good, leg(0, 1, 0, 1, 65537)), api.ErrMark})
}

// wrongQueues are flaws of the queue.
func wrongQueues() []flaw {
	queue := func(l ...int) func(s *api.State) {
		return func(s *api.State) { s.Queue = l }
	}
	return []flaw{
		{queue(6, 1, 1, 6), api.ErrMany}, {queue(7, 7, 7, 7), api.ErrMany},
		{queue(6, 1, 2), api.ErrLost}, {queue(2), api.ErrLost}, {queue(0), api.ErrLost}, {queue(-6), api.ErrLost}, {queue(6, 4), api.ErrLost}, {queue(1, 1<<40), api.ErrLost}, {queue(math.MaxInt), api.ErrLost}, {queue(math.MinInt), api.ErrLost},
		{queue(6, 6), api.ErrTwice}, {queue(6, 1, 6), api.ErrTwice}, {queue(1, 6, 6), api.ErrTwice},
		{queue(), api.ErrShort}, {queue([]int{}...), api.ErrShort}, {queue(6), api.ErrShort}, {queue(1), api.ErrShort},
	}
}

// flaws are all of them, in the order of the chapter's list.
func flaws() [][]flaw {
	var l [][]flaw
	for at := range right().Balances {
		l = append(l, wrongBalances(at))
	}
	for at := range right().Instructions {
		l = append(l, wrongInstructions(at))
	}
	return append(l, wrongQueues())
}

func TestCheckWrongInOne(t *testing.T) {
	for _, l := range flaws() {
		for _, x := range l {
			s := right()
			x.turn(&s)
			checks(t, wide(), s, x.no)
		}
	}
}

// TestCheckWrongInTwo: of two things that are wrong in unlike places the first is told.
func TestCheckWrongInTwo(t *testing.T) {
	groups := flaws()
	for i, l := range groups {
		for _, x := range l {
			for _, later := range groups[i+1:] {
				for _, y := range later {
					s := right()
					y.turn(&s)
					x.turn(&s)
					checks(t, wide(), s, x.no)
				}
			}
		}
	}
}

// TestCheckWrongInTwoOfOneThing: of two things that are wrong with one and the same the first of the list is told.
func TestCheckWrongInTwoOfOneThing(t *testing.T) {
	balances := func(l ...api.Balance) api.State { return api.State{Balances: l} }
	good := leg(0, 1, 0, 1, 0)
	for _, x := range []struct {
		s  api.State
		no api.Errno
	}{
		{balances(holds(4, 3, pos(1))), api.ErrAccount}, {balances(holds(2, 0, pos(1)), holds(-1, 0, pos(1))), api.ErrAccount}, {balances(holds(4, 0, pos(-1))), api.ErrAccount}, {balances(holds(4, 0, pos(0))), api.ErrAccount},
		{balances(holds(2, 0, pos(1)), holds(0, 3, pos(1))), api.ErrAsset}, {balances(holds(0, 3, pos(0, 7, most, 8, most))), api.ErrAsset}, {balances(holds(0, -1, pos(0))), api.ErrAsset},
		{balances(holds(2, 0, pos(1)), holds(0, 0, pos(most, 1, 1))), api.ErrArg}, {balances(holds(2, 0, pos(1)), holds(2, 0, pos(0))), api.ErrArg},
		{balances(holds(0, 0, pos(-1, 1, 1, 2, 1, 3, 1, 4, 1, 5, 1, 6, 1, 7, 1, 8, 1, 9, 1))), api.ErrArg}, {balances(holds(0, 0, pos(most, 1, 1, 2, 1, 3, 1, 4, 1, 5, 1, 6, 1, 7, 1, 8, 1, 0, 1))), api.ErrMany},
		{balances(holds(0, 0, pos(most, 1, 1, 1, 1))), api.ErrArg}, {balances(holds(0, 0, pos(0, 1, 0))), api.ErrArg},
		{balances(holds(1, 0, pos(0)), holds(0, 0, pos(1))), api.ErrShort}, {balances(holds(1, 0, pos(0)), holds(4, 0, pos(1))), api.ErrShort}, // the first balance that is wrong
		{state(nil, record(0, 4, good)), api.ErrArg}, {state(nil, record(1<<40+1, 4, good)), api.ErrArg}, {state(nil, record(1<<40+1, 1)), api.ErrArg}, {state(nil, record(5, 2, good), record(5, 4, good)), api.ErrArg}, {state(nil, record(5, 2, good), record(4, 2)), api.ErrArg},
		{state(nil, record(1, 0)), api.ErrKind}, {state(nil, record(1, 4, leg(9, 9, 9, 9, 9))), api.ErrKind}, {state(nil, record(5, 4, good), record(4, 2, good)), api.ErrKind}, // the first instruction that is wrong
		{state(nil, record(1, 2, leg(4, 4, 3, 0, -1))), api.ErrAccount}, {state(nil, record(1, 2, leg(1, 1, 3, 0, -1))), api.ErrSame}, {state(nil, record(1, 2, leg(1, 2, 3, 0, -1))), api.ErrAsset}, {state(nil, record(1, 2, leg(1, 2, 0, 0, -1))), api.ErrAmount},
		{state(nil, record(1, 2, leg(1, 2, 0, 1, -1), leg(4, 4, 3, 0, 0))), api.ErrMark}, {state(nil, record(5, 2), record(4, 0)), api.ErrShort},
		{api.State{Queue: []int{1, 1, 1, 1}}, api.ErrMany}, {api.State{Queue: []int{1, 1}}, api.ErrLost},
		{api.State{Instructions: []api.Instruction{record(1, 1, good), record(2, 1, good)}, Queue: []int{1, 1, 3}}, api.ErrTwice},
		{api.State{Instructions: []api.Instruction{record(1, 1, good), record(2, 1, good)}, Queue: []int{1, 3, 1}}, api.ErrLost},
		{api.State{Instructions: []api.Instruction{record(1, 1, good), record(2, 1, good)}, Queue: []int{1, 1}}, api.ErrTwice},
		{api.State{Instructions: []api.Instruction{record(1, 1, good), record(2, 1, good)}, Queue: []int{3}}, api.ErrLost},
	} {
		checks(t, wide(), x.s, x.no)
	}
}

// TestCheckConfigurationFirst: what doesn't fit is told ahead of all that is wrong with a state.
func TestCheckConfigurationFirst(t *testing.T) {
	c := wide()
	c.Workers = 9
	checks(t, c, right(), api.ErrArg)
	for _, l := range flaws() {
		for _, x := range l {
			s := right()
			x.turn(&s)
			checks(t, c, s, api.ErrArg)
		}
	}
}

// TestCheckHangsOnConfiguration: the same state is right in one configuration and wrong in a smaller one.
func TestCheckHangsOnConfiguration(t *testing.T) {
	for _, x := range []struct {
		turn func(c *api.Config)
		no   api.Errno
	}{
		{func(c *api.Config) { c.Accounts = 3 }, api.ErrAccount}, {func(c *api.Config) { c.Assets = 2 }, api.ErrAsset}, {func(c *api.Config) { c.Queue = 1 }, api.ErrMany}, {func(c *api.Config) { c.Queue = 0 }, api.ErrMany},
		{func(c *api.Config) { c.Queue = 2 }, api.OK}, {func(c *api.Config) { c.Accounts, c.Assets, c.Queue = 65536, 65536, 256 }, api.OK}, {func(c *api.Config) { c.Shards, c.Workers = 64, 8 }, api.OK},
	} {
		c := wide()
		x.turn(&c)
		checks(t, c, right(), x.no)
	}
	s := right()
	s.Balances = s.Balances[:3] // the account and the asset of a leg are looked at too
	checks(t, api.Config{Accounts: 3, Assets: 3, Queue: 3, Shards: 1}, s, api.ErrAccount)
	s.Balances = s.Balances[1:]
	checks(t, api.Config{Accounts: 4, Assets: 2, Queue: 3, Shards: 1}, s, api.ErrAsset)
}

// TestCheckFullQueue: the queue may be as long as it may be at all.
func TestCheckFullQueue(t *testing.T) {
	var s api.State
	for id := 1; id <= 257; id++ {
		s.Instructions = append(s.Instructions, record(id, api.Pending, leg(0, 1, 0, 1, 0)))
		s.Queue = append([]int{id}, s.Queue...)
	}
	c := api.Config{Accounts: 2, Assets: 1, Queue: 256, Shards: 1}
	checks(t, c, s, api.ErrMany)
	s.Queue = s.Queue[1:]
	checks(t, c, s, api.ErrShort)
	s.Instructions = s.Instructions[:256]
	checks(t, c, s, api.OK)
	s.Queue[255] = s.Queue[0]
	checks(t, c, s, api.ErrTwice)
}

// upTo are all lists of at most n of these things.
func upTo[T any](n int, of []T) [][]T {
	out := [][]T{nil}
	for last := out; n > 0; n-- {
		var longer [][]T
		for _, l := range last {
			for _, x := range of {
				longer = append(longer, append(slices.Clone(l), x))
			}
		}
		out, last = append(out, longer...), longer
	}
	return out
}

// TestCheckAllSmall holds Check of all states of few parts against the reckoning.
func TestCheckAllSmall(t *testing.T) {
	good := leg(0, 1, 0, 1, 0)
	balances := upTo(2, []api.Balance{holds(0, 0, pos(1)), holds(0, 1, pos(0, 7, 1)), holds(1, 0, pos(0)), holds(2, 0, pos(1)), holds(0, 2, pos(1)), holds(0, 1, pos(-1)), holds(1, 1, pos(most, 1, 1))})
	instructions := upTo(2, []api.Instruction{record(1, 1, good), record(2, 1, good), record(2, 2, good), record(1, 3, good), record(0, 1, good), record(1, 0, good), record(2, 1), record(2, 2, leg(0, 2, 0, 1, 0))})
	queues := upTo(3, []int{0, 1, 2})
	seen := map[api.Errno]int{}
	for _, room := range []int{-1, 0, 1, 2} {
		c := api.Config{Accounts: 2, Assets: 2, Queue: room, Shards: 1}
		for _, b := range balances {
			for _, i := range instructions {
				for _, q := range queues {
					s := api.State{Balances: b, Instructions: i, Queue: q}
					want := judge(c, s)
					if err := ledger.Check(c, s); !proof.Tells(err, want) {
						t.Fatalf("Check(%+v, %+v) is %v; want %v", c, s, err, want)
					}
					seen[want]++
				}
			}
		}
	}
	for _, e := range []api.Errno{api.OK, api.ErrArg, api.ErrAccount, api.ErrAsset, api.ErrOver, api.ErrShort, api.ErrKind, api.ErrMany, api.ErrLost, api.ErrTwice} {
		if seen[e] < 20 {
			t.Errorf("%v was told %d times", e, seen[e])
		}
	}
}
