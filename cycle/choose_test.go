package cycle_test

import (
	"math"
	"slices"
	"testing"

	"custody/api"
	"custody/cycle"
	"custody/proof"
)

// TestChooseAll is P24.4: where all settle together none goes out, whatever each could alone.
func TestChooseAll(t *testing.T) {
	chooses(t, nil, nil, nil, api.OK)
	chooses(t, goodBalances(), nil, nil, api.OK)
	chooses(t, nil, wishes(wish(7, leg(0, 1, 0, 5)), wish(1<<40, leg(1, 0, 0, 5))), ints(7, 1<<40), api.OK)
	chooses(t, nil, wishes(wish(9, leg(0, 1, 0, 5), leg(1, 0, 0, 5))), ints(9), api.OK)
	chooses(t, balances(held(0, 0, pos(2))), wishes(wish(3, leg(1, 2, 0, 2)), wish(2, leg(0, 1, 0, 2)), wish(1, leg(2, 3, 0, 2))), ints(1, 2, 3), api.OK)
}

// rivals are wishes for what one key has, of which only some can be.
func rivals(end func(id, priority, came int, qty int64) api.Wish) [][]api.Wish {
	return [][]api.Wish{
		{end(1, 1, 0, 2), end(2, 0, 0, 1)}, {end(2, 1, 5, 2), end(1, 0, 0, 1)}, {end(5, -1, 0, 2), end(1, -2, 0, 1)}, {end(9, math.MaxInt, 0, 2), end(1, math.MinInt, 0, 1)}, {end(9, math.MinInt+1, 0, 2), end(1, math.MinInt, 0, 1)},
		{end(1, 3, 0, 2), end(2, 3, 1, 1)}, {end(2, 3, 0, 2), end(1, 3, 1, 1)}, {end(2, 3, -2, 2), end(1, 3, -1, 1)}, {end(2, 3, math.MinInt, 2), end(1, 3, math.MaxInt, 1)}, {end(2, 3, math.MinInt, 2), end(1, 3, math.MinInt+1, 1)},
		{end(1, 3, 4, 2), end(2, 3, 4, 1)}, {end(1, 0, 0, 2), end(1<<40, 0, 0, 1)}, {end(1<<40-1, 0, 0, 2), end(1<<40, 0, 0, 1)},
	}
}

// TestWhoGoesOut is P24.4: the least Priority, then the one that Came last, then the greatest Id; of those that take where a key lacks something, and of those that give where it has too much.
func TestWhoGoesOut(t *testing.T) {
	takes := func(id, priority, came int, qty int64) api.Wish { return ranked(id, priority, came, leg(5, 6, 0, qty)) }
	for _, l := range rivals(takes) {
		// With two there the first one is left, though the other one alone could be too.
		chooses(t, balances(held(5, 0, pos(2))), l, ints(l[0].Id), api.OK)
		slices.Reverse(l)
		chooses(t, balances(held(5, 0, pos(2))), l, ints(l[1].Id), api.OK)
		// With one there the other one comes in again.
		chooses(t, balances(held(5, 0, pos(1))), l, ints(l[0].Id), api.OK)
		chooses(t, balances(held(5, 0, pos(0))), l, nil, api.OK)
	}
	gives := func(id, priority, came int, qty int64) api.Wish { return ranked(id, priority, came, leg(6, 5, 0, qty)) }
	for _, l := range rivals(gives) {
		full := func(room int64) []api.Balance {
			return balances(held(5, 0, pos(most-room-1, 4, 1)), held(6, 0, pos(9)))
		}
		chooses(t, full(2), l, ints(l[0].Id), api.OK)
		chooses(t, full(1), l, ints(l[1].Id), api.OK)
		chooses(t, full(0), l, nil, api.OK)
	}
}

// TestOnlyWhoTakesOrGives is P24.4: who doesn't take from a key that lacks something, or give to one that has too much, stays in, however little urgent.
func TestOnlyWhoTakesOrGives(t *testing.T) {
	idle := ranked(9, math.MinInt, math.MaxInt, leg(7, 8, 0, 1))
	giver := ranked(8, math.MinInt, math.MaxInt, leg(7, 5, 0, 1))
	other := ranked(7, math.MinInt, math.MaxInt, leg(5, 8, 1, 1)) // another asset
	b := balances(held(5, 0, pos(1)), held(5, 1, pos(1)), held(7, 0, pos(2)))
	chooses(t, b, wishes(idle, giver, other, wish(1, leg(5, 6, 0, 3))), ints(7, 8, 9), api.OK)
	chooses(t, b, wishes(idle, giver, other, wish(1, leg(5, 6, 0, 2))), ints(1, 7, 8, 9), api.OK)

	taker := ranked(8, math.MinInt, math.MaxInt, leg(5, 8, 0, 1))
	full := balances(held(5, 0, pos(most)), held(5, 1, pos(1)), held(6, 0, pos(9)), held(7, 0, pos(2)))
	chooses(t, full, wishes(idle, taker, other, wish(1, leg(6, 5, 0, 2))), ints(7, 8, 9), api.OK)
	chooses(t, full, wishes(idle, taker, other, wish(1, leg(6, 5, 0, 1))), ints(1, 7, 8, 9), api.OK)
}

// TestWhoTakesAndGives is P24.4: who takes from a key by one leg may go out where it lacks something, though by another leg it gives more there; and so the other way round.
func TestWhoTakesAndGives(t *testing.T) {
	// 3 takes one from 5 and gives two there. It goes out first, and so 2, which needs it, goes out too; were 1 to go out, they would settle.
	l := wishes(ranked(1, 1, 0, leg(5, 8, 0, 2)), ranked(2, 2, 0, leg(5, 7, 0, 2)), ranked(3, 0, 0, leg(5, 6, 0, 1), leg(7, 5, 0, 2)))
	b := balances(held(5, 0, pos(1)))
	chooses(t, b, l, nil, api.OK)
	chooses(t, b, l[1:], ints(2, 3), api.OK)
	// 3 gives one to 5, which is nearly full, and takes two from there.
	l = wishes(ranked(1, 1, 0, leg(8, 5, 0, 2)), ranked(2, 2, 0, leg(7, 5, 0, 2)), ranked(3, 0, 0, leg(6, 5, 0, 1), leg(5, 7, 0, 2)))
	b = balances(held(5, 0, pos(most-1)), held(6, 0, pos(9)), held(7, 0, pos(most)), held(8, 0, pos(9)))
	chooses(t, b, l, nil, api.OK)
	chooses(t, b, l[1:], ints(2, 3), api.OK)
}

// TestFirstKey is P24.4: of the keys that stand against the wishes the first one counts, by account and then by asset.
func TestFirstKey(t *testing.T) {
	// 1 lacks one, and 2 has too much: were 2 looked at first, 1 would go out, and the other two settle.
	l := wishes(ranked(1, 1, 0, leg(1, 2, 0, 2)), wish(2, leg(0, 1, 0, 2)), wish(3, leg(1, 0, 0, 2)))
	chooses(t, balances(held(0, 0, pos(1)), held(1, 0, pos(1)), held(2, 0, pos(most-1))), l, nil, api.OK)
	// 0 1 has too much, and 1 0 lacks one: were 1 0 looked at first, 2 would go out, and none could be.
	l = wishes(ranked(1, 0, 1, leg(0, 1, 0, 2)), ranked(2, 0, 1, leg(1, 0, 0, 2)), wish(3, leg(1, 0, 1, 2), leg(1, 0, 0, 1)))
	chooses(t, balances(held(0, 1, pos(most-1)), held(1, 1, pos(2))), l, ints(1, 2), api.OK)
}

// TestWhoComesIn is P24.4: of those that fit the greatest Priority, then the one that Came first, then the least Id.
func TestWhoComesIn(t *testing.T) {
	// The most urgent one asks for too much: all go out, and one of the others comes in again.
	greedy := func(priority int) api.Wish { return ranked(50, priority, 0, leg(5, 6, 0, 2)) }
	one := func(id, priority, came int) api.Wish { return ranked(id, priority, came, leg(5, 6, 0, 1)) }
	b := balances(held(5, 0, pos(1)))
	for _, x := range []struct{ first, second api.Wish }{
		{one(2, 1, 9), one(1, 0, 0)}, {one(2, -1, 9), one(1, -2, 0)}, {one(2, math.MaxInt-1, 0), one(1, math.MinInt, 0)},
		{one(2, 1, 3), one(1, 1, 4)}, {one(2, 1, -4), one(1, 1, -3)}, {one(2, 1, math.MinInt), one(1, 1, math.MaxInt)},
		{one(1, 1, 3), one(2, 1, 3)}, {one(49, 0, 0), one(1<<40, 0, 0)},
	} {
		chooses(t, b, wishes(greedy(math.MaxInt), x.first, x.second), ints(x.first.Id), api.OK)
		chooses(t, b, wishes(x.second, x.first, greedy(math.MaxInt)), ints(x.first.Id), api.OK)
	}
	// What is more urgent and doesn't fit is passed over.
	chooses(t, balances(held(5, 0, pos(2))), wishes(ranked(1, 9, 0, leg(5, 6, 0, 3)), ranked(2, 8, 0, leg(5, 6, 0, 2)), ranked(3, 7, 0, leg(5, 6, 0, 1))), ints(2), api.OK)
	chooses(t, balances(held(5, 0, pos(2))), wishes(ranked(1, 9, 0, leg(5, 6, 0, 3)), ranked(2, 8, 0, leg(5, 6, 0, 1)), ranked(3, 7, 0, leg(5, 6, 0, 1)), ranked(4, 6, 0, leg(5, 6, 0, 1))), ints(2, 3), api.OK)
}

// TestAgainFromTheFirst is P24.4: a wish that was passed over comes in, when another one has made room for it.
func TestAgainFromTheFirst(t *testing.T) {
	l := wishes(ranked(1, 2, 0, leg(0, 1, 1, 2)), wish(2, leg(1, 0, 0, 2)), wish(3, leg(0, 1, 1, 1), leg(0, 1, 0, 2)))
	// All go out. Neither 1 nor 2 fits; 3 does, and then 2.
	chooses(t, balances(held(0, 0, pos(most-1)), held(0, 1, pos(1))), l, ints(2, 3), api.OK)
	// The same along a row, each behind the next one.
	row := wishes(ranked(9, 9, 0, leg(0, 5, 0, 2)))
	var want []int
	for x := range 6 {
		row = append(row, ranked(10+x, x, 0, leg(x, x+1, 0, 1)))
		want = append(want, 10+x)
	}
	chooses(t, balances(held(0, 0, pos(1))), row, want, api.OK)
}

// TestMarksStay is P24.4 and P24.2: marks are in the total, and nothing is taken from them.
func TestMarksStay(t *testing.T) {
	l := wishes(wish(1, leg(0, 1, 0, 2)))
	for _, x := range []struct {
		b    []api.Balance
		want bool
	}{
		{balances(held(0, 0, pos(2))), true}, {balances(held(0, 0, pos(1))), false}, {balances(held(0, 0, pos(1, 7, 1))), false}, {balances(held(0, 0, pos(0, 7, most))), false}, {balances(held(0, 0, pos(2, 7, most-2))), true},
		{balances(held(0, 0, pos(2)), held(1, 0, pos(most-2))), true}, {balances(held(0, 0, pos(2)), held(1, 0, pos(most-1))), false},
		{balances(held(0, 0, pos(2)), held(1, 0, pos(0, 7, most-2))), true}, {balances(held(0, 0, pos(2)), held(1, 0, pos(0, 7, most-1))), false}, {balances(held(0, 0, pos(2)), held(1, 0, pos(1, 7, 1, 8, most-3))), false},
		{balances(held(0, 1, pos(2)), held(1, 0, pos(2))), false},
	} {
		feasible(t, x.b, l, x.want, api.OK)
		if x.want {
			chooses(t, x.b, l, ints(1), api.OK)
		} else {
			chooses(t, x.b, l, nil, api.OK)
		}
	}
}

// TestFeasibleByHand is P24.2: all wishes count together, and all legs of each.
func TestFeasibleByHand(t *testing.T) {
	feasible(t, nil, nil, true, api.OK)
	feasible(t, goodBalances(), nil, true, api.OK)
	feasible(t, nil, wishes(wish(1, leg(0, 1, 0, 1))), false, api.OK)
	feasible(t, nil, wishes(wish(1, leg(0, 1, 0, 1), leg(1, 0, 0, 1))), true, api.OK)
	feasible(t, nil, wishes(wish(1, leg(0, 1, 0, 1), leg(1, 0, 0, 2))), false, api.OK)
	feasible(t, nil, wishes(wish(1, leg(0, 1, 0, 1), leg(1, 0, 1, 1))), false, api.OK)
	// Sums that are beyond all bounds on the way.
	ring := wishes(wish(1, slices.Repeat([]api.Leg{leg(0, 1, 0, most)}, 4)...), wish(2, slices.Repeat([]api.Leg{leg(1, 0, 0, most)}, 4)...))
	feasible(t, nil, ring, true, api.OK)
	feasible(t, balances(held(0, 0, pos(most)), held(1, 0, pos(most))), ring, true, api.OK)
	feasible(t, nil, append(ring, wish(3, leg(0, 1, 0, 1))), false, api.OK)
	feasible(t, balances(held(0, 0, pos(1))), append(ring, wish(3, leg(0, 1, 0, 1))), true, api.OK)
	feasible(t, balances(held(0, 0, pos(1)), held(1, 0, pos(most))), append(ring, wish(3, leg(0, 1, 0, 1))), false, api.OK)
	// What is taken so often that numbers of 64 bits would come round to 0 again.
	feasible(t, nil, wishes(wish(1, leg(0, 1, 0, most), leg(0, 1, 0, most), leg(0, 1, 0, 2))), false, api.OK)
	feasible(t, balances(held(0, 0, pos(most))), wishes(wish(1, leg(0, 1, 0, most), leg(0, 1, 0, most), leg(0, 1, 0, 2))), false, api.OK)
}

// TestChooseOfMost: many wishes with many legs of which most go out and many come in again, over many balances, are chosen in no time.
func TestChooseOfMost(t *testing.T) {
	d := proof.Dice(2405)
	var b []api.Balance
	for account := range 100000 {
		b = append(b, held(account, 0, pos(int64(d.Below(40)))), held(account, 1, pos(int64(d.Below(40)), 1, 5)))
	}
	for _, accounts := range []int{3, 40, 3000} {
		var l []api.Wish
		for x := range 256 {
			var legs []api.Leg
			for len(legs) < 4 {
				from := d.Below(accounts)
				legs = append(legs, leg(from, (from+1+d.Below(accounts-1))%accounts, d.Below(2), 1+int64(d.Below(30))))
			}
			l = append(l, ranked(x+1, d.Below(5), d.Below(100), legs...))
		}
		in, out := chosen(t, b, l)
		if len(in) == 0 || len(out) == 0 || !together(t, b, in) {
			t.Errorf("%d are chosen of %d", len(in), len(l))
		}
		if _, err := cycle.Rings(nil, l); err != nil {
			t.Error(err)
		}
		behind(t, b, in)
	}
}
