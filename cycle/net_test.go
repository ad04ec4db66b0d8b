package cycle_test

import (
	"math"
	"slices"
	"testing"

	"custody/api"
	"custody/proof"
)

// TestNetByHand is P24.1: sums of all legs by rising keys, and those of 0 left out.
func TestNetByHand(t *testing.T) {
	nets(t, nil, nil, api.OK)
	nets(t, []api.Wish{}, nil, api.OK)
	nets(t, wishes(wish(1, leg(4, 3, 2, 5))), balances(held(3, 2, pos(5)), held(4, 2, pos(-5))), api.OK)
	nets(t, wishes(wish(1, leg(3, 4, 2, 5), leg(4, 3, 2, 5))), nil, api.OK)
	nets(t, wishes(wish(1, leg(3, 4, 2, 5), leg(4, 3, 2, 4))), balances(held(3, 2, pos(-1)), held(4, 2, pos(1))), api.OK)
	nets(t, wishes(wish(1, leg(3, 4, 2, 5), leg(4, 3, 1, 5))), balances(held(3, 1, pos(5)), held(3, 2, pos(-5)), held(4, 1, pos(-5)), held(4, 2, pos(5))), api.OK)
	// A key in the middle that gets 0, over two wishes.
	nets(t, wishes(wish(2, leg(1, 2, 0, 7)), wish(1, leg(2, 3, 0, 7))), balances(held(1, 0, pos(-7)), held(3, 0, pos(7))), api.OK)
	nets(t, wishes(wish(1<<40, leg(math.MaxInt, 0, math.MaxInt, most))), balances(held(0, math.MaxInt, pos(most)), held(math.MaxInt, math.MaxInt, pos(-most))), api.OK)
	// By rising keys: accounts first, then assets; as numbers.
	nets(t, wishes(wish(1, leg(10, 9, 10, 1), leg(10, 9, 9, 1), leg(10, 100, 1, 1))), balances(
		held(9, 9, pos(1)), held(9, 10, pos(1)), held(10, 1, pos(-1)), held(10, 9, pos(-1)), held(10, 10, pos(-1)), held(100, 1, pos(1)),
	), api.OK)
}

// flows are wishes of which the key 5 0 gets these quantities, each from another account, or gives them, below 0: so no other key gets more than one of them.
func flows(l ...int64) []api.Wish {
	var out []api.Wish
	for x, n := range l {
		if n > 0 {
			out = append(out, wish(1+x, leg(10+x, 5, 0, n)))
		} else {
			out = append(out, wish(1+x, leg(5, 10+x, 0, -n)))
		}
	}
	return out
}

// TestNetAtTheBounds is P24.1: a sum may be from -2^63 to 2^63 - 1; what is beyond only on the way isn't told, in any order.
func TestNetAtTheBounds(t *testing.T) {
	for _, x := range []struct {
		l    []int64
		want int64
		no   api.Errno
	}{
		{[]int64{most}, most, api.OK}, {[]int64{most - 1, 1}, most, api.OK}, {[]int64{most, 1}, 0, api.ErrOver}, {[]int64{most, most}, 0, api.ErrOver},
		{[]int64{-most}, -most, api.OK}, {[]int64{-most, -1}, least, api.OK}, {[]int64{-most, -2}, 0, api.ErrOver}, {[]int64{-most, -1, -1}, 0, api.ErrOver}, {[]int64{-most, -most}, 0, api.ErrOver},
		{[]int64{most, 1, -1}, most, api.OK}, {[]int64{most, most, -most}, most, api.OK}, {[]int64{most, most, most, -most, -most}, most, api.OK}, {[]int64{most, most, -most, 1}, 0, api.ErrOver},
		{[]int64{-most, -1, -1, 1}, least, api.OK}, {[]int64{-most, -most, most - 1}, least, api.OK}, {[]int64{-most, -most, most - 2}, 0, api.ErrOver},
		{[]int64{most, most, -most, -most, 3}, 3, api.OK}, {[]int64{-most, -most, most, most, -3}, -3, api.OK},
		// 2^64 and a few: in 64 bits that would be a few.
		{[]int64{most, most, 2}, 0, api.ErrOver}, {[]int64{most, most, 7}, 0, api.ErrOver}, {[]int64{-most, -most, -2}, 0, api.ErrOver}, {[]int64{-most, -most, -7}, 0, api.ErrOver},
	} {
		l := flows(x.l...)
		for range 2 {
			if x.no != api.OK {
				nets(t, l, nil, x.no)
			} else {
				net, _ := netAgain(l)
				nets(t, l, net, api.OK)
				if at := slices.IndexFunc(net, func(b api.Balance) bool { return b.Key == api.Key{Account: 5} }); net[at].Position.Avail != x.want {
					t.Errorf("of %v 5 gets %d, not %d", x.l, net[at].Position.Avail, x.want)
				}
			}
			slices.Reverse(l)
		}
	}
}

// TestNetOfOneWish is P24.1 of sums that are beyond 64 bits within one wish.
func TestNetOfOneWish(t *testing.T) {
	nets(t, wishes(wish(1, leg(1, 2, 0, most), leg(1, 2, 0, most))), nil, api.ErrOver)
	nets(t, wishes(wish(1, leg(1, 2, 0, most), leg(1, 2, 0, 1))), nil, api.ErrOver) // 2 gets too much
	nets(t, wishes(wish(1, leg(1, 2, 0, most), leg(1, 3, 0, 1))), balances(held(1, 0, pos(least)), held(2, 0, pos(most)), held(3, 0, pos(1))), api.OK)
	nets(t, wishes(wish(1, leg(1, 2, 0, most), leg(1, 3, 0, 2))), nil, api.ErrOver) // 1 gives too much
	nets(t, wishes(wish(1, leg(1, 2, 0, most), leg(1, 2, 0, most), leg(2, 1, 0, most), leg(2, 1, 0, most-1))), balances(held(1, 0, pos(-1)), held(2, 0, pos(1))), api.OK)
	// In 64 bits 3 * 2^62 would be below 0.
	nets(t, wishes(wish(1, leg(1, 2, 0, 1<<62), leg(3, 2, 0, 1<<62), leg(4, 2, 0, 1<<62), leg(2, 5, 0, most))), balances(
		held(1, 0, pos(-1<<62)), held(2, 0, pos(1<<62+1)), held(3, 0, pos(-1<<62)), held(4, 0, pos(-1<<62)), held(5, 0, pos(most)),
	), api.OK)
}

// TestNetOfTheMost is P24.1 of as much as wishes can ask for: of all keys whose sums are beyond one is enough.
func TestNetOfTheMost(t *testing.T) {
	var all, none []api.Wish
	for x := range 256 {
		all = append(all, wish(1+x, slices.Repeat([]api.Leg{leg(0, 1, 0, most)}, 4)...))
		none = append(none, wish(1+x, slices.Repeat([]api.Leg{leg(x%2, 1-x%2, 0, most)}, 4)...))
	}
	nets(t, all, nil, api.ErrOver)
	nets(t, none, nil, api.OK)
	none[255].Legs[3] = leg(0, 1, 0, 1)
	nets(t, none, nil, api.ErrOver)
	none[255].Legs[3] = leg(1, 0, 0, most-1)
	nets(t, none, balances(held(0, 0, pos(-1)), held(1, 0, pos(1))), api.OK)
	feasible(t, balances(held(0, 0, pos(1))), none, true, api.OK)
	settles(t, balances(held(0, 0, pos(1))), none, balances(held(1, 0, pos(1))), api.OK)
	feasible(t, balances(held(0, 0, pos(most))), all, false, api.OK)
	rings(t, balances(held(0, 0, pos(most))), all, nil, api.OK)
	chooses(t, balances(held(0, 0, pos(most))), all, nil, api.OK)
}

// TestNetIsAllTogether: what two lists of wishes come to is the sum of what each comes to.
func TestNetIsAllTogether(t *testing.T) {
	d := proof.Dice(2410)
	for range 3000 {
		l := throwWishes(&d, 2+d.Below(10), 4)
		for x := range l {
			for at := range l[x].Legs {
				l[x].Legs[at].Qty = 1 + int64(d.Below(4))
			}
		}
		at := d.Below(len(l))
		net, no := netAgain(l)
		one, _ := netAgain(l[:at])
		two, _ := netAgain(l[at:])
		nets(t, l, net, no)
		sum := map[api.Key]int64{}
		for _, x := range slices.Concat(one, two) {
			sum[x.Key] += x.Position.Avail
		}
		for _, x := range net {
			sum[x.Key] -= x.Position.Avail
		}
		for k, n := range sum {
			if n != 0 {
				t.Fatalf("of %+v %v gets %d more in parts", l, k, n)
			}
		}
	}
}
