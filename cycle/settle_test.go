package cycle_test

import (
	"math"
	"slices"
	"testing"

	"custody/api"
)

// TestSettleByHand is P24.3: keys whose total is 0 then are left out, others are as they were or as they became, by rising keys.
func TestSettleByHand(t *testing.T) {
	settles(t, nil, nil, nil, api.OK)
	settles(t, []api.Balance{}, []api.Wish{}, nil, api.OK)
	// No wishes: balances of nothing are left out, all others stay.
	settles(t, balances(held(0, 0, pos(0)), held(1, 0, pos(0, 3, 1)), held(2, 0, pos(0)), held(2, 1, pos(4)), held(3, 9, pos(0))), nil, balances(held(1, 0, pos(0, 3, 1)), held(2, 1, pos(4))), api.OK)
	// A key gives all that it has, part of it, all but its marks.
	l := wishes(wish(1, leg(1, 2, 0, 5)))
	settles(t, balances(held(1, 0, pos(5))), l, balances(held(2, 0, pos(5))), api.OK)
	settles(t, balances(held(1, 0, pos(6))), l, balances(held(1, 0, pos(1)), held(2, 0, pos(5))), api.OK)
	settles(t, balances(held(1, 0, pos(5, 3, 2, 4, 1))), l, balances(held(1, 0, pos(0, 3, 2, 4, 1)), held(2, 0, pos(5))), api.OK)
	settles(t, balances(held(1, 0, pos(5)), held(2, 0, pos(0, 3, 2))), l, balances(held(2, 0, pos(5, 3, 2))), api.OK)
	settles(t, balances(held(1, 0, pos(5)), held(2, 0, pos(0))), l, balances(held(2, 0, pos(5))), api.OK)
	// Keys of others stay, also such with the same account or asset; those of nothing are left out.
	settles(t, balances(held(0, 0, pos(9)), held(1, 0, pos(5)), held(1, 1, pos(0)), held(1, 2, pos(7, 1, 1)), held(2, 1, pos(8)), held(3, 0, pos(6))), l, balances(
		held(0, 0, pos(9)), held(1, 2, pos(7, 1, 1)), held(2, 0, pos(5)), held(2, 1, pos(8)), held(3, 0, pos(6)),
	), api.OK)
	// New keys at the beginning, in the middle and at the end.
	settles(t, balances(held(5, 5, pos(9)), held(7, 5, pos(1))), wishes(wish(1, leg(5, 0, 5, 1), leg(5, 6, 5, 2), leg(5, 8, 5, 3), leg(7, 5, 5, 1))), balances(
		held(0, 5, pos(1)), held(5, 5, pos(4)), held(6, 5, pos(2)), held(8, 5, pos(3)),
	), api.OK)
	settles(t, balances(held(math.MaxInt, math.MaxInt, pos(most))), wishes(wish(1, leg(math.MaxInt, 0, math.MaxInt, most))), balances(held(0, math.MaxInt, pos(most))), api.OK)
	// A row over accounts that hold nothing, a ring, and both against cash.
	settles(t, balances(held(1, 0, pos(5))), wishes(wish(3, leg(3, 4, 0, 5)), wish(2, leg(2, 3, 0, 5)), wish(1, leg(1, 2, 0, 5))), balances(held(4, 0, pos(5))), api.OK)
	settles(t, balances(held(1, 0, pos(5)), held(2, 9, pos(70))), wishes(wish(1, leg(1, 2, 0, 5), leg(2, 1, 9, 70))), balances(held(1, 9, pos(70)), held(2, 0, pos(5))), api.OK)
}

// TestSettleAtTheBounds is P24.3: what is free may come to 0, and the total to MaxAmount, with marks.
func TestSettleAtTheBounds(t *testing.T) {
	l := wishes(wish(1, leg(1, 2, 0, 5)))
	for _, x := range []struct {
		from, to api.Position
		no       api.Errno
	}{
		{pos(5), pos(most - 5), api.OK}, {pos(4), pos(most - 5), api.ErrCover}, {pos(5), pos(most - 4), api.ErrOver}, {pos(4), pos(most - 4), api.ErrCover},
		{pos(5, 1, most-5), pos(0, 1, most-5), api.OK}, {pos(4, 1, 1), pos(0), api.ErrCover}, {pos(0, 1, most), pos(0), api.ErrCover},
		{pos(5), pos(0, 1, most-4), api.ErrOver}, {pos(5), pos(0, 1, most), api.ErrOver}, {pos(5), pos(1, 1, most-6), api.OK}, {pos(5), pos(1, 1, most-5), api.ErrOver}, {pos(5), pos(most), api.ErrOver},
		{pos(most), pos(0), api.OK}, {pos(0), pos(most), api.ErrCover},
	} {
		b := balances(api.Balance{Key: api.Key{Account: 1}, Position: x.from}, api.Balance{Key: api.Key{Account: 2}, Position: x.to})
		want, _ := settleAgain(b, l)
		settles(t, b, l, want, x.no)
		feasible(t, b, l, x.no == api.OK, api.OK)
	}
}

// TestCoverAheadOfOver is P24.3: what a key lacks is told ahead of what is too much under another, wherever both stand.
func TestCoverAheadOfOver(t *testing.T) {
	lacking := func(at int) api.Wish { return wish(1+at, leg(at, 50, at, 3)) }
	flooding := func(at int) api.Wish { return wish(100+at, leg(60, at, at, 3)) }
	for low := range 4 {
		for high := range 4 {
			var b []api.Balance
			for at := range 4 {
				b = append(b, held(at, at, pos(most)))
			}
			for at := range 4 {
				b = append(b, held(60, at, pos(9)))
			}
			settles(t, b, wishes(flooding(high)), nil, api.ErrOver)
			if low == high {
				continue
			}
			b[low].Position.Avail = 2
			settles(t, b, wishes(lacking(low)), nil, api.ErrCover)
			settles(t, b, wishes(flooding(high), lacking(low)), nil, api.ErrCover)
			settles(t, b, wishes(lacking(low), flooding(high)), nil, api.ErrCover)
		}
	}
}

// TestSettleOnTheWay is P24.3: only what all wishes come to counts, not what it is on the way.
func TestSettleOnTheWay(t *testing.T) {
	there, back := wish(1, leg(1, 2, 0, most), leg(1, 2, 0, most)), wish(2, leg(2, 1, 0, most), leg(2, 1, 0, most))
	for _, l := range [][]api.Wish{{there, back}, {back, there}} {
		settles(t, nil, l, nil, api.OK)
		full := balances(held(1, 0, pos(most)), held(2, 0, pos(3, 4, most-3)))
		settles(t, full, l, full, api.OK)
		l = append(slices.Clone(l), wish(3, leg(2, 1, 0, 3)))
		settles(t, full, l, nil, api.ErrOver)
		settles(t, full[1:], l, balances(held(1, 0, pos(3)), held(2, 0, pos(0, 4, most-3))), api.OK)
	}
}
