package cycle_test

import (
	"math"
	"slices"
	"testing"

	"custody/api"
	"custody/cycle"
	"custody/proof"
)

// row are wishes with these ids, each of which gives one of asset 0 from one of the accounts to the next one.
func row(first int, accounts ...int) []api.Wish {
	var l []api.Wish
	for at, from := range accounts[:len(accounts)-1] {
		l = append(l, wish(first+at, leg(from, accounts[at+1], 0, 1)))
	}
	return l
}

// ringed holds Rings against what is wanted of it, for the wishes in any of a few orders.
func ringed(t *testing.T, b []api.Balance, l []api.Wish, want ...[]int) {
	t.Helper()
	d := proof.Dice(2420)
	for range 5 {
		rings(t, b, l, want, api.OK)
		proof.Shuffle(&d, l)
	}
}

// TestNoRings is P24.5: none, one alone, rows.
func TestNoRings(t *testing.T) {
	ringed(t, nil, nil)
	ringed(t, goodBalances(), nil)
	ringed(t, nil, row(1, 1, 2))
	ringed(t, nil, row(1, 1, 2, 3, 4))
	ringed(t, nil, slices.Concat(row(1, 1, 2, 3), row(8, 1, 3, 4)))
	ringed(t, nil, slices.Concat(row(1, 1, 2), row(2, 1, 2), row(3, 1, 2)))
	// One alone is no ring: it gives to where it takes, too little or in another asset.
	ringed(t, nil, wishes(wish(1, leg(1, 2, 0, 2), leg(2, 1, 0, 1))))
	ringed(t, nil, wishes(wish(1, leg(1, 2, 0, 2), leg(2, 1, 1, 2))))
	ringed(t, nil, wishes(wish(1, leg(1, 2, 0, 2), leg(3, 1, 0, 1))))
}

// TestRingsByHand is P24.5: rings of two and more, ids and rings in their order.
func TestRingsByHand(t *testing.T) {
	ringed(t, nil, row(1, 1, 2, 1), ints(1, 2))
	ringed(t, nil, row(1, 1, 2, 3, 4, 5, 1), ints(1, 2, 3, 4, 5))
	ringed(t, nil, row(1<<40-1, 1, 2, 1), ints(1<<40-1, 1<<40))
	// Ids rise, however the ring goes.
	ringed(t, nil, wishes(wish(9, leg(1, 2, 0, 1)), wish(3, leg(2, 3, 0, 1)), wish(7, leg(3, 4, 0, 1)), wish(5, leg(4, 1, 0, 1))), ints(3, 5, 7, 9))
	// Two rings, by their least ids, that are mixed.
	ringed(t, nil, slices.Concat(row(1, 1, 2, 3, 1), row(11, 4, 5, 4)), ints(1, 2, 3), ints(11, 12))
	ringed(t, nil, wishes(wish(2, leg(4, 5, 0, 1)), wish(8, leg(5, 4, 0, 1)), wish(9, leg(1, 2, 0, 1)), wish(1, leg(2, 1, 0, 1)), wish(4, leg(6, 7, 0, 1)), wish(3, leg(7, 6, 0, 1))), ints(1, 9), ints(2, 8), ints(3, 4))
	// Of one asset alone: who gives another one is not waited for.
	ringed(t, nil, wishes(wish(1, leg(1, 2, 0, 1)), wish(2, leg(2, 1, 1, 1))))
	ringed(t, nil, wishes(wish(1, leg(1, 2, 0, 1), leg(2, 1, 1, 5)), wish(2, leg(2, 1, 0, 1), leg(1, 2, 1, 5))), ints(1, 2))
	// How much is given doesn't count.
	ringed(t, nil, wishes(wish(1, leg(1, 2, 0, 100)), wish(2, leg(2, 1, 0, 1))), ints(1, 2))
	ringed(t, nil, wishes(wish(1, leg(1, 2, 0, most), leg(1, 2, 0, most), leg(1, 2, 0, 2)), wish(2, leg(2, 1, 0, most), leg(2, 1, 0, most), leg(2, 1, 0, 2))), ints(1, 2))
	// Priorities and times don't either.
	ringed(t, nil, wishes(ranked(1, math.MinInt, math.MaxInt, leg(1, 2, 0, 1)), ranked(2, math.MaxInt, math.MinInt, leg(2, 1, 0, 1))), ints(1, 2))
}

// TestRingsThatMeet is P24.5: rings that share an account are one; one that is only met from outside, or leads out, is left alone.
func TestRingsThatMeet(t *testing.T) {
	// 1 2 1 and 2 3 2: from each wish one comes to each other.
	ringed(t, nil, slices.Concat(row(1, 1, 2, 1), row(5, 2, 3, 2)), ints(1, 2, 5, 6))
	// From 3 something goes to 1: who stands at 1 waits for it, and it for none.
	ringed(t, nil, slices.Concat(row(1, 1, 2, 1), row(5, 3, 1)), ints(1, 2))
	ringed(t, nil, slices.Concat(row(1, 1, 2, 1), row(5, 4, 3, 1)), ints(1, 2))
	// From 1 something goes to 3: it waits for the ring, and none for it.
	ringed(t, nil, slices.Concat(row(1, 1, 2, 1), row(5, 1, 3)), ints(1, 2))
	ringed(t, nil, slices.Concat(row(1, 1, 2, 1), row(5, 1, 3, 4)), ints(1, 2))
	// A row from one ring to another.
	ringed(t, nil, slices.Concat(row(1, 1, 2, 1), row(11, 1, 5, 6, 3), row(21, 3, 4, 3)), ints(1, 2), ints(21, 22))
	// With a row back, too, they are one.
	ringed(t, nil, slices.Concat(row(1, 1, 2, 1), row(11, 1, 5, 3), row(21, 3, 4, 3), row(31, 4, 2)), ints(1, 2, 11, 12, 21, 22, 31))
	// Several that give to one, and take from one.
	ringed(t, nil, slices.Concat(row(1, 1, 2), row(3, 1, 2), row(5, 1, 2), row(7, 2, 1)), ints(1, 3, 5, 7))
}

// TestWhoIsStuck is P24.5: who lacks something at some key, by what it comes to there; too much is nothing that it lacks.
func TestWhoIsStuck(t *testing.T) {
	pair := row(1, 1, 2, 1)
	for _, x := range []struct {
		p     api.Position
		stuck bool
	}{{pos(0), true}, {pos(1), false}, {pos(most), false}, {pos(0, 3, 1), true}, {pos(0, 3, most), true}, {pos(1, 3, 1), false}} {
		var want [][]int
		if x.stuck {
			want = [][]int{{1, 2}}
		}
		ringed(t, balances(api.Balance{Key: api.Key{Account: 1}, Position: x.p}), pair, want...)
		ringed(t, balances(api.Balance{Key: api.Key{Account: 2}, Position: x.p}), pair, want...)
	}
	ringed(t, balances(held(1, 1, pos(5)), held(3, 0, pos(5))), pair, ints(1, 2)) // held under other keys
	// Who takes back what it gives isn't stuck, and who takes back less is.
	ringed(t, nil, append(pair[:1:1], wish(2, leg(2, 1, 0, 1), leg(3, 2, 0, 1), leg(4, 3, 0, 1), leg(1, 4, 0, 1))))
	whole, part := wish(3, leg(1, 2, 0, 1), leg(2, 1, 0, 1)), wish(3, leg(1, 2, 0, 2), leg(2, 1, 0, 1))
	ringed(t, nil, append(slices.Clone(pair), whole), ints(1, 2))
	ringed(t, nil, append(slices.Clone(pair), part), ints(1, 2, 3))
	// 2 has no room for what 1 gives: 1 isn't stuck by that, and stays stuck if it lacks something too.
	full := balances(held(1, 0, pos(1)), held(2, 0, pos(0, 1, most)))
	ringed(t, full, pair)
	ringed(t, full[1:], pair, ints(1, 2))
	// One that is stuck at one of its keys, and not at another.
	ringed(t, balances(held(1, 1, pos(5))), wishes(wish(1, leg(1, 2, 1, 5), leg(1, 2, 0, 1)), wish(2, leg(2, 1, 0, 1))), ints(1, 2))
	ringed(t, balances(held(1, 1, pos(5))), wishes(wish(1, leg(1, 2, 1, 5), leg(1, 2, 0, 1)), wish(2, leg(2, 1, 1, 1))))
}

// TestWhoIsWaitedFor is P24.5: who gives more than it takes at a key where the other one lacks something, if it is stuck itself.
func TestWhoIsWaitedFor(t *testing.T) {
	first := wish(1, leg(1, 2, 0, 9))
	for _, x := range []struct {
		second api.Wish
		waits  bool
	}{
		{wish(2, leg(2, 1, 0, 1)), true}, {wish(2, leg(2, 1, 0, 2), leg(1, 3, 0, 1)), true}, {wish(2, leg(2, 1, 0, 2), leg(1, 3, 0, 2)), false}, {wish(2, leg(2, 1, 0, 2), leg(1, 3, 0, 3)), false},
		{wish(2, leg(2, 1, 0, 1), leg(1, 3, 0, 2), leg(4, 1, 0, 2)), true}, {wish(2, leg(2, 1, 0, most), leg(1, 3, 0, most), leg(2, 1, 0, most), leg(1, 3, 0, most)), false},
		{wish(2, leg(2, 1, 1, 1)), false}, {wish(2, leg(2, 3, 0, 1)), false}, {wish(2, leg(2, 3, 0, 1), leg(3, 1, 0, 1)), true},
		// 2^64 in all: in 64 bits that would be nothing.
		{wish(2, leg(2, 1, 0, most), leg(2, 1, 0, most), leg(3, 1, 0, 2)), true},
	} {
		var want [][]int
		if x.waits {
			want = [][]int{{1, 2}}
		}
		ringed(t, nil, wishes(first, x.second), want...)
	}
	// 3 could settle alone: though it gives to 1 and takes from 2, it isn't of the ring; nor is there one without it.
	ringed(t, balances(held(3, 0, pos(1))), slices.Concat(row(1, 1, 2), row(2, 2, 3), row(3, 3, 1)))
	ringed(t, balances(held(3, 0, pos(1))), slices.Concat(row(1, 1, 2, 1), row(3, 3, 1)), ints(1, 2))
	// Where none lacks something, giving doesn't count: 1 lacks at 1 0, and 2 gives at 1 1 and at 2 0.
	ringed(t, balances(held(1, 1, pos(9))), wishes(wish(1, leg(1, 2, 0, 1), leg(1, 2, 1, 1)), wish(2, leg(2, 1, 1, 5))))
}

// TestRingOfMost is P24.5 of as many wishes as there may be, in one ring, in many, and all mixed up.
func TestRingOfMost(t *testing.T) {
	var ring, pairs []api.Wish
	var ids []int
	var each [][]int
	for x := range 256 {
		ids = append(ids, 1+x)
		ring = append(ring, wish(1+x, leg(x*37%256, (x+1)*37%256, 0, 1)))
		pairs = append(pairs, wish(1+x, leg(x%128, 128+x%128, 0, 1)))
		if x > 127 {
			pairs[x].Legs[0].From, pairs[x].Legs[0].To = pairs[x].Legs[0].To, pairs[x].Legs[0].From
			each = append(each, ints(x-127, x+1))
		}
	}
	ringed(t, nil, ring, ids)
	ringed(t, nil, pairs, each...)
	last := slices.IndexFunc(ring, func(w api.Wish) bool { return w.Id == 200 })
	ringed(t, nil, slices.Delete(ring, last, last+1))
	d := proof.Dice(2421)
	for range 10 {
		agreesOnRings(t, throwWishes(&d, 256, 300))
	}
}

// agreesOnRings holds Rings over nothing against the second reckoning.
func agreesOnRings(t *testing.T, l []api.Wish) {
	t.Helper()
	got, err := cycle.Rings(nil, l)
	if want := ringsAgain(nil, l); err != nil || !proof.SameLists(got, want) || len(want) == 0 {
		t.Fatalf("of %d wishes the rings are %v, %v, not %v", len(l), got, err, want)
	}
}
