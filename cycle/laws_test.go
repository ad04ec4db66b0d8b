package cycle_test

import (
	"math/big"
	"slices"
	"testing"

	"custody/api"
	"custody/cycle"
	"custody/proof"
)

// throwMany throws more wishes than the second reckoning could go through, of little quantities.
func throwMany(d *proof.Dice, most int) []api.Wish {
	accounts := 3 + d.Below(20)
	l := throwWishes(d, 2+d.Below(most-1), accounts)
	for x := range l {
		for at := range l[x].Legs {
			l[x].Legs[at].Qty = 1 + int64(d.Below(9))
		}
	}
	return l
}

// TestNothingIsLeftThatCouldSettle is P24.6 and W9: what is chosen settles together, with any one more it doesn't, and all are chosen where all settle together.
func TestNothingIsLeftThatCouldSettle(t *testing.T) {
	d := proof.Dice(2430)
	all, some := 0, 0
	for range 2500 {
		l := throwMany(&d, proof.Of(&d, 3, 12, 40))
		b := throwBalances(&d, 6)
		in, out := chosen(t, b, l)
		if !together(t, b, in) {
			t.Fatalf("over %+v of %+v what is chosen doesn't settle: %+v", b, l, in)
		}
		for _, w := range out {
			if together(t, b, append(slices.Clone(in), w)) {
				t.Fatalf("over %+v of %+v %d is left out, and could settle beside %+v", b, l, w.Id, in)
			}
		}
		if together(t, b, l) {
			if all++; len(out) > 0 {
				t.Fatalf("over %+v %+v settle together, and %+v are left out", b, l, out)
			}
		} else if len(in) > 0 {
			some++
		}
		// Of those that are chosen all are chosen.
		ids, _ := cycle.Choose(b, l)
		chooses(t, b, in, ids, api.OK)
	}
	if all < 50 || some < 500 {
		t.Errorf("all settled together %d times, and %d times some were chosen", all, some)
	}
}

// throwRing throws wishes of which each gives on to the next one's place as much as the one ahead of it gives. Places may come again.
func throwRing(d *proof.Dice, count, places int) []api.Wish {
	row := []int{d.Below(places)}
	for len(row) < count {
		row = append(row, (row[len(row)-1]+1+d.Below(places-1))%places)
	}
	if row[count-1] == row[0] {
		row[count-1] = places // one more, so that the last one has somewhere to give
	}
	qty := proof.Of(d, 1, 5, most, 1+int64(d.Below(1000)))
	asset := d.Below(3)
	var l []api.Wish
	for x, from := range row {
		l = append(l, ranked(1+x, d.Below(3), d.Number(), leg(from, row[(x+1)%count], asset, qty)))
	}
	proof.Shuffle(d, l)
	return l
}

// TestRingsAreUntied is P24.7 and W9: a ring of wishes settles whole over nothing, though none of them does alone, and it is one ring.
func TestRingsAreUntied(t *testing.T) {
	d := proof.Dice(2431)
	for turn := range 2000 {
		count := 2 + d.Below(12)
		if turn%100 == 0 {
			count = 256 - d.Below(2)
		}
		l := throwRing(&d, count, 2+d.Below(2*count))
		var ids []int
		for x := range count {
			ids = append(ids, 1+x)
		}
		nothing := balances(held(0, 0, pos(0)), held(1, 0, pos(0)), held(3, 2, pos(0)))
		for _, b := range [][]api.Balance{nil, nothing, balances(held(0, 0, pos(0, 1, 9)), held(1, 2, pos(0, 5, 3)))} {
			for _, w := range l {
				feasible(t, b, wishes(w), false, api.OK)
			}
			feasible(t, b, l, true, api.OK)
			chooses(t, b, l, ids, api.OK)
			rings(t, b, l, [][]int{ids}, api.OK)
			left, _ := settleAgain(b, nil)
			settles(t, b, l, left, api.OK)
		}
		nets(t, l, nil, api.OK)
		// Without one of them the others need what it gave, all of it.
		gone := l[0].Legs[0]
		feasible(t, balances(held(gone.To, gone.Asset, pos(gone.Qty))), l[1:], true, api.OK)
		feasible(t, balances(held(gone.To, gone.Asset, pos(gone.Qty-1))), l[1:], false, api.OK)
	}
}

// answers are what all calls say of wishes over balances.
type answers struct {
	net, behind  []api.Balance
	ids          []int
	rings        [][]int
	is           bool
	first, later error // of Net, and of Settle
}

func answered(b []api.Balance, l []api.Wish) answers {
	var a answers
	a.net, a.first = cycle.Net(l)
	a.is, _ = cycle.Feasible(b, l)
	a.ids, _ = cycle.Choose(b, l)
	a.rings, _ = cycle.Rings(b, l)
	a.behind, a.later = cycle.Settle(b, l)
	return a
}

func sameAnswers(x, y answers) bool {
	return proof.SameBalances(x.net, y.net) && proof.SameBalances(x.behind, y.behind) && slices.Equal(x.ids, y.ids) && proof.SameLists(x.rings, y.rings) && x.is == y.is
}

// TestOrderOfTheListDoesNotCount is P24.8: in any order wishes are answered alike; if some are wrong, there is an error in any order.
func TestOrderOfTheListDoesNotCount(t *testing.T) {
	d := proof.Dice(2432)
	right, wrong := 0, 0
	for turn := range 4000 {
		b, l := throwBalances(&d, 5), throwWishes(&d, 1+d.Below(12), 5)
		switch turn % 4 {
		case 0:
			l = throwMany(&d, 60)
		case 1, 2:
			spoilt(&d, nil, l)
		}
		want := answered(b, l)
		if wrongWishes(l) == api.OK {
			right++
		} else {
			wrong++
		}
		for range 4 {
			proof.Shuffle(&d, l)
			got := answered(b, l)
			if !sameAnswers(got, want) || (got.first == nil) != (want.first == nil) || (got.later == nil) != (want.later == nil) {
				t.Fatalf("in another order %+v over %+v are answered %+v, not %+v", l, b, got, want)
			}
			if wrongWishes(l) == api.OK && !(proof.Tells(got.first, number(want.first)) && proof.Tells(got.later, number(want.later))) {
				t.Fatalf("in another order %+v over %+v have the errors %v, %v, not %v, %v", l, b, got.first, got.later, want.first, want.later)
			}
		}
	}
	if right < 2000 || wrong < 300 {
		t.Errorf("%d were right, %d wrong", right, wrong)
	}
}

// number is that of an error which is one.
func number(err error) api.Errno {
	no, _ := err.(api.Errno)
	return no
}

// sums are the totals of each asset over all keys.
func sums(b []api.Balance) map[int]*big.Int {
	l := map[int]*big.Int{}
	for _, x := range b {
		if l[x.Key.Asset] == nil {
			l[x.Key.Asset] = new(big.Int)
		}
		l[x.Key.Asset].Add(l[x.Key.Asset], totalOf(x.Position))
	}
	return l
}

// keeps tells that balances have the sums and marks of others, and that nothing is wrong with them.
func keeps(t *testing.T, before, after []api.Balance) {
	t.Helper()
	old, now := sums(before), sums(after)
	for asset := range 3 {
		if a, b := old[asset], now[asset]; (a == nil || a.Sign() == 0) != (b == nil) || a != nil && b != nil && a.Cmp(b) != 0 {
			t.Fatalf("of asset %d there was %v, and is %v: %+v, %+v", asset, a, b, before, after)
		}
	}
	for _, k := range allKeys(slices.Concat(before, after), nil) {
		if x, y := under(before, k).Marks, under(after, k).Marks; !slices.Equal(x, y) {
			t.Fatalf("the marks of %v were %v, and are %v", k, x, y)
		}
	}
	empty := slices.ContainsFunc(after, func(x api.Balance) bool { return totalOf(x.Position).Sign() == 0 })
	if no := wrongBalances(after); no != api.OK || empty {
		t.Fatalf("wrong balances, %v: %+v", no, after)
	}
}

// TestSettleKeepsTotals is P24.9 and W6: by what was chosen nothing comes or goes, and Settle by it has no error.
func TestSettleKeepsTotals(t *testing.T) {
	d := proof.Dice(2433)
	moved := 0
	for turn := range 6000 {
		b, l := throwBalances(&d, 5), throwWishes(&d, 1+d.Below(12), 5)
		if turn%3 == 0 {
			l = throwMany(&d, 30)
		}
		in, _ := chosen(t, b, l)
		after := behind(t, b, in)
		keeps(t, b, after)
		if !proof.SameBalances(b, after) {
			moved++
		}
		if all, err := cycle.Settle(b, l); err == nil {
			keeps(t, b, all)
		}
	}
	if moved < 2000 {
		t.Errorf("only %d were moved", moved)
	}
}

// TestSettleIsNetAndBalances: what is free behind wishes is what was, and what Net says.
func TestSettleIsNetAndBalances(t *testing.T) {
	d := proof.Dice(2434)
	for range 3000 {
		b := throwBalances(&d, 5)
		in, _ := chosen(t, b, throwMany(&d, 30))
		net, err := cycle.Net(in)
		if err != nil {
			t.Fatal(err)
		}
		after := behind(t, b, in)
		for _, k := range allKeys(b, in) {
			if under(after, k).Avail != under(b, k).Avail+under(net, k).Avail {
				t.Fatalf("at %v %d is free behind %+v over %+v", k, under(after, k).Avail, in, b)
			}
		}
	}
}

// TestSpentOnce is P24.10 by hand: 1 and 2 were out, since 3 asked for too much, and settle in the next cycle.
func TestSpentOnce(t *testing.T) {
	l := wishes(ranked(1, 1, 0, leg(1, 2, 0, 2)), wish(2, leg(2, 1, 0, 1)), ranked(3, 2, 0, leg(0, 2, 0, 2)), wish(4, leg(0, 1, 0, 1)))
	b := balances(held(0, 0, pos(1)))
	chooses(t, b, l, ints(4), api.OK)
	after := balances(held(1, 0, pos(1)))
	settles(t, b, l[3:], after, api.OK)
	chooses(t, after, l[:3], ints(1, 2), api.OK)
	settles(t, after, l[:2], balances(held(2, 0, pos(1))), api.OK)
	chooses(t, balances(held(2, 0, pos(1))), l[2:3], nil, api.OK)
}

// TestCyclesInARow is P24.10: what is chosen in one cycle and in the next settles together with it, over what was at first; and each cycle spends what it chooses.
func TestCyclesInARow(t *testing.T) {
	d := proof.Dice(2435)
	more := 0
	for range 5000 {
		b, left := throwBalances(&d, 4), throwMany(&d, 20)
		now := b
		var done []api.Wish
		for cycles := 0; ; cycles++ {
			in, out := chosen(t, now, left)
			if len(in) == 0 {
				break
			}
			if cycles == 1 {
				more++
			}
			now, left, done = behind(t, now, in), out, append(done, in...)
			settles(t, b, done, now, api.OK)
		}
		for _, w := range left {
			if together(t, now, wishes(w)) {
				t.Fatalf("%+v is left, and could settle over %+v", w, now)
			}
		}
	}
	if more == 0 {
		t.Error("never was something chosen in a second cycle")
	}
}

// TestOneWishAlone is P24.10: of one wish alone Choose chooses it just where Feasible says true; and it is no ring.
func TestOneWishAlone(t *testing.T) {
	d := proof.Dice(2436)
	yes, no := 0, 0
	for range 6000 {
		b, l := throwBalances(&d, 3), throwWishes(&d, 1, 3)
		rings(t, b, l, nil, api.OK)
		if together(t, b, l) {
			chooses(t, b, l, ints(l[0].Id), api.OK)
			yes++
		} else {
			chooses(t, b, l, nil, api.OK)
			no++
		}
	}
	if yes < 500 || no < 500 {
		t.Errorf("%d could settle, %d couldn't", yes, no)
	}
}
