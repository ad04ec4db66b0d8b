package cycle_test

import (
	"math"
	"slices"
	"testing"

	"custody/api"
	"custody/proof"
)

// flaw is one thing that is wrong with a wish.
type flaw struct {
	turn func(w *api.Wish)
	no   api.Errno
}

// legFlaws are those of the leg at a place, in the order in which they are looked at.
func legFlaws(at int) [][]flaw {
	turned := func(no api.Errno, turns ...func(x *api.Leg)) []flaw {
		var l []flaw
		for _, turn := range turns {
			l = append(l, flaw{func(w *api.Wish) { turn(&w.Legs[at]) }, no})
		}
		return l
	}
	return [][]flaw{
		turned(api.ErrAccount, func(x *api.Leg) { x.From = -1 }, func(x *api.Leg) { x.From = math.MinInt }, func(x *api.Leg) { x.To = -1 }, func(x *api.Leg) { x.To = math.MinInt }, func(x *api.Leg) { x.From, x.To = -1, -1 }),
		turned(api.ErrSame, func(x *api.Leg) { x.To = x.From }, func(x *api.Leg) { x.From, x.To = 0, 0 }, func(x *api.Leg) { x.From, x.To = math.MaxInt, math.MaxInt }),
		turned(api.ErrAsset, func(x *api.Leg) { x.Asset = -1 }, func(x *api.Leg) { x.Asset = math.MinInt }),
		turned(api.ErrAmount, func(x *api.Leg) { x.Qty = 0 }, func(x *api.Leg) { x.Qty = -1 }, func(x *api.Leg) { x.Qty = least }),
		turned(api.ErrMark, func(x *api.Leg) { x.Name = 1 }, func(x *api.Leg) { x.Name = -1 }, func(x *api.Leg) { x.Name = 65537 }, func(x *api.Leg) { x.Name = math.MinInt }),
	}
}

// wishFlaws are those of a wish with three legs behind one with the id 3, in the order in which they are looked at.
func wishFlaws() [][]flaw {
	id := func(n int) func(w *api.Wish) { return func(w *api.Wish) { w.Id = n } }
	legs := func(n int) func(w *api.Wish) {
		return func(w *api.Wish) { w.Legs = slices.Concat(w.Legs, w.Legs)[:n] }
	}
	l := [][]flaw{
		{{id(0), api.ErrArg}, {id(-1), api.ErrArg}, {id(math.MinInt), api.ErrArg}, {id(1<<40 + 1), api.ErrArg}, {id(math.MaxInt), api.ErrArg}},
		{{id(3), api.ErrTwice}},
		{{legs(0), api.ErrShort}, {func(w *api.Wish) { w.Legs = nil }, api.ErrShort}},
		{{legs(5), api.ErrMany}, {legs(6), api.ErrMany}},
	}
	for at := range 3 {
		l = append(l, legFlaws(at)...)
	}
	return l
}

// good are wishes in which nothing is wrong.
func good() []api.Wish {
	return wishes(
		ranked(3, math.MinInt, math.MaxInt, leg(0, 1, 0, 1), leg(math.MaxInt, 0, math.MaxInt, most), leg(1, 0, 0, 1)),
		ranked(1, math.MaxInt, math.MinInt, leg(0, 1, 2, 3), leg(1, 2, 0, 4), leg(2, 0, 1, 5)),
		wish(1<<40, leg(2, 1, 0, 4), leg(2, 1, 0, 4), leg(2, 1, 0, 4)),
	)
}

// wrong tells that these wishes are refused by all calls, also over balances.
func wrong(t *testing.T, l []api.Wish, no api.Errno) {
	t.Helper()
	nets(t, l, nil, no)
	refuses(t, nil, l, no)
	refuses(t, goodBalances(), l, no)
}

// TestNothingIsWrong: what is at the edge is taken.
func TestNothingIsWrong(t *testing.T) {
	for _, l := range [][]api.Wish{
		nil, {}, good(), wishes(wish(1, leg(0, math.MaxInt, 0, 1))), wishes(wish(1<<40, leg(math.MaxInt, 0, math.MaxInt, most))),
		wishes(wish(2, slices.Repeat([]api.Leg{leg(0, 1, 0, most/4)}, 4)...)), wishes(wish(1, leg(0, 1, 0, 1)), wish(2, leg(0, 1, 0, 1))),
	} {
		for _, b := range [][]api.Balance{nil, {}, goodBalances()} {
			if _, no := netAgain(l); no != api.OK || wrongAgain(b, l) != api.OK {
				t.Fatalf("of %+v over %+v something is wrong: %v, %v", l, b, no, wrongAgain(b, l))
			}
			agrees(t, b, l)
		}
	}
}

// TestWrongWishes is P24.1 and P24.2: each thing that is wrong, in each of the wishes.
func TestWrongWishes(t *testing.T) {
	for at := range good() {
		for _, group := range wishFlaws() {
			for _, x := range group {
				l := good()
				if x.turn(&l[at]); x.no == api.ErrTwice && at == 0 {
					l[1].Id = 3 // of two that are the same the later one is wrong
				}
				wrong(t, l, x.no)
			}
		}
	}
}

// TestWrongTwiceInAWish: of two things that are wrong with a wish the first of the list is told.
func TestWrongTwiceInAWish(t *testing.T) {
	groups := wishFlaws()
	for at, group := range groups {
		for _, x := range group {
			for _, later := range groups[at+1:] {
				for _, y := range later {
					l := good()
					y.turn(&l[1])
					x.turn(&l[1])
					wrong(t, l, x.no)
				}
			}
		}
	}
}

// TestWrongInTwoWishes: of two wishes that are wrong the first is told, whatever is wrong with it.
func TestWrongInTwoWishes(t *testing.T) {
	for _, group := range wishFlaws() {
		for _, later := range wishFlaws() {
			for _, at := range [][2]int{{0, 1}, {0, 2}, {1, 2}} {
				x, y := group[0], later[0]
				if x.no == api.ErrTwice && at[0] == 0 {
					continue // none is ahead of it
				}
				l := good()
				x.turn(&l[at[0]])
				y.turn(&l[at[1]])
				wrong(t, l, x.no)
			}
		}
	}
}

// many are so many wishes that settle together over nothing: each two give to one another.
func many(n int) []api.Wish {
	var l []api.Wish
	for x := range n {
		if x%2 == 0 {
			l = append(l, wish(x+1, leg(x, x+1, 7, 3)))
		} else {
			l = append(l, wish(x+1, leg(x, x-1, 7, 3)))
		}
	}
	return l
}

// TestTooManyWishes is P24.1: there may be 256; one more is told ahead of all that is wrong with any of them.
func TestTooManyWishes(t *testing.T) {
	feasible(t, nil, many(256), true, api.OK)
	nets(t, many(256), nil, api.OK)
	var ids []int
	for x := range 256 {
		ids = append(ids, x+1)
	}
	chooses(t, nil, many(256), ids, api.OK)
	wrong(t, many(257), api.ErrMany)
	wrong(t, many(1000), api.ErrMany)
	wrong(t, make([]api.Wish, 256), api.ErrArg)
	wrong(t, make([]api.Wish, 257), api.ErrMany)
	for _, group := range wishFlaws() {
		for _, at := range []int{0, 255, 256} {
			for _, n := range []int{256, 257} {
				if at >= n {
					continue
				}
				l := many(n)
				l[at].Legs = []api.Leg{leg(1, 2, 0, 1), leg(1, 2, 0, 1), leg(1, 2, 0, 1)}
				group[0].turn(&l[at])
				no := group[0].no
				if n == 257 {
					no = api.ErrMany
				}
				wrong(t, l, no)
			}
		}
	}
}

// TestManySameIds: an id is the same however far ahead the other one stands.
func TestManySameIds(t *testing.T) {
	for _, at := range []int{0, 1, 100, 254} {
		l := many(256)
		l[255].Id = l[at].Id
		wrong(t, l, api.ErrTwice)
	}
}

// Balances

func goodBalances() []api.Balance {
	return balances(
		held(0, 0, pos(1)), held(0, 1, pos(0)), held(1, 0, pos(0, 1, 1, 65536, 2)), held(2, 0, pos(most-8, 1, 1, 2, 1, 3, 1, 4, 1, 5, 1, 6, 1, 7, 1, 8, 1)),
		held(math.MaxInt, 0, pos(0, 7, most)), held(math.MaxInt, math.MaxInt, pos(most)),
	)
}

// balanceFlaw is one thing that is wrong with a balance.
type balanceFlaw struct {
	turn func(x *api.Balance)
	no   api.Errno
}

// balanceFlaws are those of a balance behind one with the key 0 1, in the order in which they are looked at.
func balanceFlaws() [][]balanceFlaw {
	key := func(account, asset int) balanceFlaw {
		return balanceFlaw{func(x *api.Balance) { x.Key = api.Key{Account: account, Asset: asset} }, api.ErrArg}
	}
	has := func(no api.Errno, p api.Position) balanceFlaw {
		return balanceFlaw{func(x *api.Balance) { x.Position = p }, no}
	}
	return [][]balanceFlaw{
		{
			key(-1, 5), key(math.MinInt, math.MaxInt), key(5, -1), key(math.MaxInt, math.MinInt), key(-1, -1), // below 0
			key(0, 1), key(0, 0), // not behind the one ahead
		},
		{has(api.ErrArg, pos(-1)), has(api.ErrArg, pos(least)), has(api.ErrArg, pos(-1, 1, 1)), has(api.ErrArg, pos(-1, 1, 1, 2, 1, 3, 1, 4, 1, 5, 1, 6, 1, 7, 1, 8, 1, 9, 1))},
		{has(api.ErrMany, pos(0, 1, 1, 2, 1, 3, 1, 4, 1, 5, 1, 6, 1, 7, 1, 8, 1, 9, 1)), has(api.ErrMany, pos(most, 1, 1, 1, 1, 0, 0, 4, 1, 5, 1, 6, 1, 7, 1, 8, 1, 9, 1))},
		{has(api.ErrArg, pos(0, 0, 1)), has(api.ErrArg, pos(0, 65537, 1)), has(api.ErrArg, pos(0, 2, 1, 2, 1)), has(api.ErrArg, pos(0, 2, 1, 1, 1)), has(api.ErrArg, pos(0, 2, 0)), has(api.ErrArg, pos(most, 1, 1, 2, -1))},
		{has(api.ErrOver, pos(most, 1, 1)), has(api.ErrOver, pos(1, 1, most)), has(api.ErrOver, pos(0, 1, most, 2, 1)), has(api.ErrOver, pos(most-8, 1, 1, 2, 1, 3, 1, 4, 1, 5, 1, 6, 1, 7, 1, 8, 2))},
	}
}

// badWishes are lists of wishes that are wrong, each with another error.
func badWishes() [][]api.Wish {
	l := [][]api.Wish{make([]api.Wish, 257)}
	for _, group := range wishFlaws() {
		w := good()
		group[0].turn(&w[1])
		l = append(l, w)
	}
	return l
}

// TestWrongBalances is P24.2: each thing that is wrong with a balance, ahead of all that is wrong with the balances behind it and with wishes; no place is told.
func TestWrongBalances(t *testing.T) {
	for _, group := range balanceFlaws() {
		for _, x := range group {
			for at := 2; at < len(goodBalances()); at++ {
				b := goodBalances()
				x.turn(&b[at])
				for _, l := range append(badWishes(), nil, good()) {
					refuses(t, b, l, x.no)
				}
			}
			for _, later := range balanceFlaws() {
				b := goodBalances()
				x.turn(&b[2])
				later[0].turn(&b[4])
				refuses(t, b, good(), x.no)
			}
		}
	}
}

// TestWrongFirstBalance: the first balance has none ahead of it.
func TestWrongFirstBalance(t *testing.T) {
	for _, group := range balanceFlaws() {
		for _, x := range group {
			b := balances(held(3, 3, pos(5)))
			x.turn(&b[0])
			if no := wrongBalances(b); no != api.OK {
				refuses(t, b, nil, x.no)
			} else {
				feasible(t, b, nil, true, api.OK)
			}
		}
	}
	refuses(t, balances(held(-1, 0, pos(5))), nil, api.ErrArg)
	refuses(t, balances(held(0, -1, pos(5))), nil, api.ErrArg)
	feasible(t, balances(held(0, 0, pos(5))), nil, true, api.OK)
}

// TestKeyAheadOfPosition: of a balance that is wrong in both its key is told.
func TestKeyAheadOfPosition(t *testing.T) {
	groups := balanceFlaws()
	for _, x := range groups[0] {
		for _, later := range groups[1:] {
			for _, y := range later {
				b := goodBalances()
				y.turn(&b[2])
				x.turn(&b[2])
				refuses(t, b, good(), api.ErrArg)
			}
		}
	}
}

// TestKeysRise is P24.2 of keys in all orders: the same key twice, assets and accounts that fall.
func TestKeysRise(t *testing.T) {
	keys := proof.Keys(0, 0, 0, 1, 0, math.MaxInt, 1, 0, 1, 1, math.MaxInt, 0)
	for i, a := range keys {
		for j, b := range keys {
			both := balances(api.Balance{Key: a}, api.Balance{Key: b})
			if i < j {
				feasible(t, both, nil, true, api.OK)
				settles(t, both, nil, nil, api.OK)
			} else {
				refuses(t, both, nil, api.ErrArg)
			}
			triple := append(balances(held(0, 0, pos(0))), both...)
			if i < j && i > 0 {
				feasible(t, triple, nil, true, api.OK)
			} else {
				refuses(t, triple, nil, api.ErrArg)
			}
		}
	}
}
