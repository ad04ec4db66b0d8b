package engine_test

import (
	"slices"
	"testing"

	"custody/api"
	"custody/engine"
	"custody/proof"
)

// unlike is how many of these keys are unlike.
func unlike(l []api.Key) int {
	seen := map[api.Key]bool{}
	for _, k := range l {
		seen[k] = true
	}
	return len(seen)
}

// bound is the chapter's formula once more, of what Run takes.
func bound(c api.Config, sessions [][][]int64) int {
	k, w := len(sessions), c.Workers
	var costs, noSnapshots, submits int
	for _, row := range slices.Concat(sessions...) {
		o, no := judged(c, row)
		keys := 0
		if no == api.OK && o.Code != api.OpSnapshot {
			keys = min(c.Shards, unlike(keysOf(o)))
			noSnapshots++
		}
		switch {
		case no != api.OK:
			costs++
		case o.Code == api.OpSnapshot:
			costs += 1 + len(o.Pairs)
		case o.Code == api.OpStatus:
			costs += 2 + 2*keys
		default:
			costs += 3 + 2*keys
		}
		if no == api.OK && o.Code == api.OpSubmit && w > 0 {
			submits++
		}
	}
	d := noSnapshots + submits
	t := d * min(submits, c.Queue)
	return k + costs + d*(k+w) + t*(3+2*min(c.Shards, 9)) + 2*w*(1+d+t)
}

// P20.5, by hand: sessions of each kind of row, in a ledger of these shards, workers and room.
func TestBound(t *testing.T) {
	four := submit(7, leg(0, 1, 0, 1, 0), leg(2, 3, 1, 1, 0), leg(4, 5, 2, 1, 0), leg(6, 7, 3, 1, 0)) // nine keys
	same := submit(7, leg(0, 1, 0, 1, 0), leg(1, 0, 0, 1, 0))                                         // three keys
	one := func(row []int64) [][][]int64 { return sessionsOf(rows(row)) }
	for _, x := range []struct {
		name                   string
		shards, workers, queue int
		sessions               [][][]int64
		want                   int
	}{
		{"nothing", 1, 0, 0, nil, 0},
		{"sessions without operations", 64, 0, 5, make([][][]int64, 3), 3},
		{"workers alone", 1, 8, 5, nil, 16},
		{"workers, and a session without operations", 3, 2, 5, make([][][]int64, 1), 1 + 4},
		{"the shared example", 1, 0, 2, sessionsOf(rows(deposit(0, 0, 5), snapshot(0, 0))), 9},
		{"a deposit", 1, 0, 2, one(deposit(0, 0, 5)), 1 + 5 + 1},
		{"a deposit, many shards", 64, 0, 2, one(deposit(0, 0, 5)), 1 + 5 + 1},
		{"a withdrawal", 1, 0, 2, one(withdraw(0, 0, 5)), 1 + 5 + 1},
		{"a mark", 1, 0, 2, one(mark(0, 0, 5, 1)), 1 + 5 + 1},
		{"an unmark", 1, 0, 2, one(unmark(0, 0, 5, 1)), 1 + 5 + 1},
		{"a cancel", 1, 0, 2, one(cancel(7)), 1 + 5 + 1},
		{"a status", 1, 0, 2, one(status(7)), 1 + 4 + 1},
		{"a submit, one shard", 1, 0, 2, one(four), 1 + 5 + 1},
		{"a submit, five shards", 5, 0, 2, one(four), 1 + 13 + 1},
		{"a submit, eight shards", 8, 0, 2, one(four), 1 + 19 + 1},
		{"a submit, nine shards", 9, 0, 2, one(four), 1 + 21 + 1},
		{"a submit, ten shards", 10, 0, 2, one(four), 1 + 21 + 1},
		{"keys that are there twice", 64, 0, 2, one(same), 1 + 9 + 1},
		{"a snapshot of none", 64, 0, 2, one(snapshot()), 1 + 1},
		{"a snapshot", 64, 0, 2, one(snapshot(0, 0, 1, 1, 0, 0)), 1 + 4},
		{"a row that Decode refuses", 64, 0, 2, one([]int64{1, 0}), 1 + 1},
		{"no row", 64, 0, 2, one(nil), 1 + 1},
		{"a row that Check refuses", 64, 0, 2, one(deposit(0, 0, 0)), 1 + 1},
		{"a submit that Check refuses", 64, 3, 2, one(submit(0, leg(0, 1, 0, 1, 0))), 1 + 1 + 6},
		{"a snapshot that Check refuses", 64, 0, 2, one(snapshot(0, 0, 9, 9, 1, 1)), 1 + 1},
		{"a deposit, a worker", 1, 1, 2, one(deposit(0, 0, 5)), 1 + 5 + 2 + 2*2},
		// C 1, B 1, D 2, T 2
		{"a submit, a worker", 1, 1, 2, one(same), 1 + 5 + 2*2 + 2*5 + 2*(1+2+2)},
		{"a submit, a worker, two shards", 2, 1, 2, one(same), 1 + 7 + 2*2 + 2*7 + 2*(1+2+2)},
		{"a submit, a worker, many shards", 64, 1, 2, one(same), 1 + 9 + 2*2 + 2*21 + 2*(1+2+2)},
		{"a submit, a worker, no room", 64, 1, 0, one(same), 1 + 9 + 2*2 + 0 + 2*(1+2)},
		// C 4, B 3, D 7, T 14 by the queue's room
		{"submits, workers, little room", 3, 2, 2, sessionsOf(rows(same, same), rows(same, status(1), snapshot(0, 0), nil)), 2 + 9*3 + 4 + 2 + 1 + 7*4 + 14*9 + 4*(1+7+14)},
		// T 21 by the submits
		{"submits, workers, much room", 3, 2, 256, sessionsOf(rows(same, same), rows(same, status(1), snapshot(0, 0), nil)), 2 + 9*3 + 4 + 2 + 1 + 7*4 + 21*9 + 4*(1+7+21)},
		{"the same without workers", 3, 0, 256, sessionsOf(rows(same, same), rows(same, status(1), snapshot(0, 0), nil)), 2 + 9*3 + 4 + 2 + 1 + 4*2},
	} {
		c := api.Config{Accounts: 8, Assets: 4, Queue: x.queue, Shards: x.shards, Workers: x.workers}
		got := engine.Bound(c, x.sessions)
		if again := bound(c, x.sessions); got != x.want || again != x.want {
			t.Errorf("%s: Bound is %d, by the formula %d; want %d", x.name, got, again, x.want)
		}
		enough(t, c, x.sessions)
	}
}

// enough checks that with as many picks as Bound a run is quiet, and every operation has returned.
func enough(t *testing.T, c api.Config, sessions [][][]int64) {
	t.Helper()
	count := 0
	for _, l := range sessions {
		count += len(l)
	}
	n := engine.Bound(c, sessions)
	for _, picks := range [][]int{zeros(n), turns(-1, n), zeros(n + 7)} {
		r, err := engine.Run(c, sessions, picks)
		if err != nil || !r.Quiet || r.Turns > n || len(r.Calls) != count || slices.ContainsFunc(r.Calls, func(x api.Call) bool { return x.Returned == 0 }) {
			t.Errorf("%+v, %v, %d picks: %+v %v", c, sessions, n, r, err)
		}
	}
}

// P20.5, against the formula once more, of sessions of chance.
func TestBoundAgainstFormula(t *testing.T) {
	d := proof.Dice(2004)
	for range 20000 {
		g := throw(&d)
		g.c.Accounts, g.c.Assets = 1+d.Below(4), 1+d.Below(3)
		if got, want := engine.Bound(g.c, g.sessions), bound(g.c, g.sessions); got != want {
			t.Fatalf("%+v, %v: Bound is %d, not %d", g.c, g.sessions, got, want)
		}
	}
}

// P20.5: the greatest Bound is more than MaxPicks, and is told all the same.
func TestBoundAboveMaxPicks(t *testing.T) {
	c := api.Config{Accounts: 8, Assets: 4, Queue: 256, Shards: 64, Workers: 8}
	l := slices.Repeat(rows(submit(7, leg(0, 1, 0, 1, 0), leg(2, 3, 1, 1, 0), leg(4, 5, 2, 1, 0), leg(6, 7, 3, 1, 0))), 256)
	sessions := slices.Repeat(sessionsOf(l), 16)
	// A 21 each; C 4096, B 4096, D 8192, T 2^21
	want := 16 + 21*4096 + 8192*24 + 2097152*21 + 16*(1+8192+2097152)
	if got := engine.Bound(c, sessions); got != want || got <= api.MaxPicks {
		t.Errorf("Bound is %d, not %d", got, want)
	}
}
