package engine_test

import (
	"slices"
	"testing"

	"custody/api"
	"custody/engine"
	"custody/proof"
)

// refuses checks that Run refuses these, without a result, and that Bound is 0, where that isn't because of the picks.
func refuses(t *testing.T, want api.Errno, c api.Config, sessions [][][]int64, picks []int) {
	t.Helper()
	r, err := engine.Run(c, sessions, picks)
	if !proof.Tells(err, want) || !proof.SameResult(r, api.Result{}) {
		t.Errorf("%+v, %d sessions, %d picks: %+v %v, not %v", c, len(sessions), len(picks), r, err, want)
	}
	if n := engine.Bound(c, sessions); len(picks) <= api.MaxPicks && n != 0 {
		t.Errorf("%+v, %d sessions: Bound is %d, where Run is refused", c, len(sessions), n)
	}
}

// takes checks that Run takes these.
func takes(t *testing.T, c api.Config, sessions [][][]int64, picks []int) {
	t.Helper()
	r, err := engine.Run(c, sessions, picks)
	if want, _ := reckoned(c, sessions, picks); err != nil || !proof.SameResult(r, want) {
		t.Errorf("%+v, %d sessions, %d picks: %+v %v, not %+v", c, len(sessions), len(picks), r, err, want)
	}
}

// ends are a field of a configuration, and the least and the greatest number that it may have.
type ends struct {
	set         func(c *api.Config, n int)
	least, most int
}

func allEnds() []ends {
	return []ends{
		{func(c *api.Config, n int) { c.Accounts = n }, 1, api.MaxAccounts},
		{func(c *api.Config, n int) { c.Assets = n }, 1, api.MaxAssets},
		{func(c *api.Config, n int) { c.Queue = n }, 0, api.MaxQueue},
		{func(c *api.Config, n int) { c.Shards = n }, 1, api.MaxShards},
		{func(c *api.Config, n int) { c.Workers = n }, 0, api.MaxWorkers},
	}
}

// P20.1: ErrArg, if guard.Fits refuses the configuration, whatever the sessions are.
func TestConfigRefused(t *testing.T) {
	few := sessionsOf(rows(deposit(0, 0, 1)))
	many := make([][][]int64, api.MaxSessions+1)
	long := sessionsOf(make([][]int64, api.MaxOps+1))
	for _, sessions := range [][][][]int64{nil, few, many, long} {
		refuses(t, api.ErrArg, api.Config{}, sessions, nil)
		for _, e := range allEnds() {
			for _, n := range []int{e.least - 1, e.most + 1, -1 << 63, 1<<63 - 1} {
				c := small(1)
				e.set(&c, n)
				refuses(t, api.ErrArg, c, sessions, zeros(5))
			}
		}
	}
	refuses(t, api.ErrArg, api.Config{}, many, make([]int, api.MaxPicks+1))
	for _, e := range allEnds() {
		for _, n := range []int{e.least, e.least + 1, e.most - 1, e.most} {
			c := small(1)
			e.set(&c, n)
			takes(t, c, few, zeros(30))
		}
	}
}

// P20.1: ErrMany, at each limit's ends and one beyond.
func TestTooMany(t *testing.T) {
	c := small(1)
	idle := func(n int) [][][]int64 { return make([][][]int64, n) }
	wrong := func(n int) [][]int64 { return make([][]int64, n) } // rows of no numbers
	for _, n := range []int{0, 1, 15, 16} {
		takes(t, c, idle(n), zeros(n+2))
	}
	for _, n := range []int{17, 18, 1000} {
		refuses(t, api.ErrMany, c, idle(n), nil)
	}
	for _, n := range []int{255, 256} {
		takes(t, c, sessionsOf(wrong(n)), zeros(300))
		takes(t, c, append(idle(15), wrong(n)), zeros(300))
	}
	for _, n := range []int{257, 258, 10000} {
		refuses(t, api.ErrMany, c, sessionsOf(wrong(n)), nil)
		refuses(t, api.ErrMany, c, append(idle(15), wrong(n)), zeros(9))
		refuses(t, api.ErrMany, c, append(sessionsOf(wrong(n)), idle(3)...), zeros(9))
	}
	for _, n := range []int{1<<20 - 1, 1 << 20} {
		takes(t, c, sessionsOf(rows(deposit(0, 0, 1))), zeros(n))
	}
	for _, n := range []int{1<<20 + 1, 1<<20 + 2} {
		refuses(t, api.ErrMany, c, nil, zeros(n))
		refuses(t, api.ErrMany, c, sessionsOf(rows(deposit(0, 0, 1))), zeros(n))
	}
	refuses(t, api.ErrMany, c, idle(17), zeros(1<<20+1))
}

// TestGreatest: a run at all limits at once.
func TestGreatest(t *testing.T) {
	c := api.Config{Accounts: api.MaxAccounts, Assets: api.MaxAssets, Queue: api.MaxQueue, Shards: api.MaxShards, Workers: api.MaxWorkers}
	sessions := make([][][]int64, api.MaxSessions)
	for n := range sessions {
		for i := range api.MaxOps {
			account, id := n*4096+i, 1+n*api.MaxOps+i
			sessions[n] = append(sessions[n], [][]int64{
				deposit(account, 65535-account, int64(id)), deposit(account, 65535-account, int64(id)),
				submit(id, leg(account, (account+1)%65536, 65535-account, 1, 0)), submit(1<<40-id, leg(account, 0, n, 1, 65536), leg(65535, account, 65535, 1, 0)),
			}[i%4])
		}
	}
	d := proof.Dice(2002)
	r, err := engine.Run(c, sessions, d.Picks(api.MaxPicks))
	if err != nil || !r.Quiet || r.Stuck != 0 || len(r.Calls) != 16*256 || len(r.State.Instructions) == 0 {
		t.Fatalf("%v, quiet: %v, %d calls", err, r.Quiet, len(r.Calls))
	}
	for _, x := range r.Calls {
		if x.Returned == 0 || x.Number == 0 {
			t.Fatalf("%+v", x)
		}
	}
	behindNumbers(t, game{c, sessions, nil}, r)
}

// TestAnything is R1: whatever is handed in is answered, and refused as the chapter says.
func TestAnything(t *testing.T) {
	d := proof.Dice(2003)
	refused := 0
	for range 3000 {
		c := api.Config{Accounts: d.Number(), Assets: d.Number(), Queue: d.Number(), Shards: d.Number(), Workers: d.Number()}
		if d.Below(2) == 0 {
			c = api.Config{Accounts: 1 + d.Below(4), Assets: 1 + d.Below(3), Queue: d.Below(3), Shards: 1 + d.Below(64), Workers: d.Below(4)}
		}
		var sessions [][][]int64
		for range d.Below(4) {
			var l [][]int64
			for range d.Below(9) {
				l = append(l, anyRow(&d))
			}
			sessions = append(sessions, l)
		}
		picks := d.Picks(d.Below(300))
		n := engine.Bound(c, sessions)
		if outside(c) {
			refused++
			refuses(t, api.ErrArg, c, sessions, picks)
			continue
		}
		if want := bound(c, sessions); n != want {
			t.Fatalf("%+v, %v: Bound is %d, not %d", c, sessions, n, want)
		}
		takes(t, c, sessions, picks)
	}
	if refused < 500 || refused > 2500 {
		t.Errorf("%d were refused", refused)
	}
}

// anyRow is a row of any numbers, some of them one of an operation.
func anyRow(d *proof.Dice) []int64 {
	if d.Below(3) > 0 {
		return proof.Row(d.AnyOp())
	}
	row := []int64{int64(d.Below(10))}
	for range d.Below(14) {
		row = append(row, int64(d.Number()))
	}
	return row[d.Below(2):]
}

// outside is what guard.Fits refuses, once more.
func outside(c api.Config) bool {
	return slices.ContainsFunc([][3]int{{c.Accounts, 1, 65536}, {c.Assets, 1, 65536}, {c.Queue, 0, 256}, {c.Shards, 1, 64}, {c.Workers, 0, 8}}, func(x [3]int) bool {
		return proof.Outside(x[0], x[1], x[2])
	})
}
