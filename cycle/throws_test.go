package cycle_test

import (
	"slices"
	"testing"

	"custody/api"
	"custody/proof"
)

// throwQty is an amount: small, so that many sums are the same, or near the greatest.
func throwQty(d *proof.Dice) int64 {
	return proof.Of(d, 1, 1, 2, 2, 3, 1+int64(d.Below(6)), 1+int64(d.Below(6)), most-int64(d.Below(3)))
}

// throwLegs are from 1 to 4, between so many accounts.
func throwLegs(d *proof.Dice, accounts int) []api.Leg {
	var l []api.Leg
	for range proof.Of(d, 1, 1, 1, 2, 2, 3, 4) {
		from := d.Below(accounts)
		l = append(l, leg(from, (from+1+d.Below(accounts-1))%accounts, d.Below(2), throwQty(d)))
	}
	return l
}

// throwWishes are so many in which nothing is wrong, between so many accounts; some are as urgent as others, or came as they did.
func throwWishes(d *proof.Dice, n, accounts int) []api.Wish {
	var l []api.Wish
	for x := range n {
		l = append(l, ranked(1+x, proof.Of(d, 0, d.Below(4)-1, d.Number()), proof.Of(d, 0, d.Below(3), d.Number()), throwLegs(d, accounts)...))
	}
	if d.Below(3) == 0 {
		for x := range l {
			l[x].Id *= 1 << 40 / n
		}
	}
	proof.Shuffle(d, l)
	return l
}

// throwBalances are right ones of so many accounts: mostly of little or nothing, or mostly of enough; some nearly full, some with marks.
func throwBalances(d *proof.Dice, accounts int) []api.Balance {
	var l []api.Balance
	base := proof.Of(d, 0, 0, 1000)
	for account := range accounts {
		for asset := range 2 {
			little := pos(int64(base + d.Below(8)))
			p := proof.Of(d, little, little, little, pos(int64(d.Below(4)), 3, 1, 9, most-10), pos(most-int64(d.Below(6))), d.Position())
			if base > 0 || d.Below(2) == 0 {
				l = append(l, held(account, asset, p))
			}
		}
	}
	if d.Below(4) == 0 {
		l = append(l, held(accounts, 0, d.Position()), held(accounts+7, 1, pos(0))) // no wish names these
	}
	return l
}

// spoilt are wishes and balances of which mostly one has something wrong, or nothing.
func spoilt(d *proof.Dice, b []api.Balance, l []api.Wish) {
	if len(l) > 0 && d.Below(2) == 0 {
		w := &l[d.Below(len(l))]
		n := d.Number()
		at := d.Below(len(w.Legs))
		switch d.Below(8) {
		case 0:
			w.Id = n
		case 1:
			w.Legs = slices.Repeat(w.Legs, d.Below(4))
		case 2:
			w.Legs[at].From = n
		case 3:
			w.Legs[at].To = n
		case 4:
			w.Legs[at].Asset = n
		case 5:
			w.Legs[at].Qty = int64(n)
		case 6:
			w.Legs[at].Name = n
		case 7:
			w.Legs[at].To = w.Legs[at].From
		}
	}
	if len(b) > 0 && d.Below(3) == 0 {
		x := &b[d.Below(len(b))]
		switch d.Below(4) {
		case 0:
			x.Key.Account = d.Number()
		case 1:
			x.Key.Asset = d.Number()
		case 2:
			x.Position.Avail = int64(d.Number())
		case 3:
			x.Position.Marks = []api.Mark{{Name: d.Number(), Qty: int64(d.Number())}, {Name: d.Number(), Qty: int64(d.Number())}}
		}
	}
}

// TestThrown holds all calls of thrown wishes over thrown balances against the second reckoning.
func TestThrown(t *testing.T) {
	d := proof.Dice(2401)
	var all, some, none, tied, gone, over int
	for range 12000 {
		accounts := 2 + d.Below(4)
		b, l := throwBalances(&d, accounts), throwWishes(&d, 1+d.Below(8), accounts)
		agrees(t, b, l)
		switch in := len(chooseAgain(b, l)); in {
		case len(l):
			all++
		case 0:
			none++
		default:
			some++
		}
		if len(ringsAgain(b, l)) > 0 {
			tied++
		}
		if _, no := netAgain(l); no != api.OK {
			gone++
		}
		if _, no := settleAgain(b, l); no == api.ErrOver {
			over++
		}
	}
	if min(all, some, none, tied, gone, over) < 300 {
		t.Errorf("all were chosen %d times, some %d, none %d; there were rings %d times; %d nets and %d settlements were too much", all, some, none, tied, gone, over)
	}
}

// TestThrownRings: the same of many wishes of one asset, with little held, so that there are rings of all kinds.
func TestThrownRings(t *testing.T) {
	d := proof.Dice(2402)
	two, long := 0, 0
	for range 4000 {
		accounts := 3 + d.Below(8)
		var l []api.Wish
		for x := range 2 + d.Below(12) {
			from := d.Below(accounts)
			l = append(l, ranked(1+x, d.Below(3), d.Below(3), leg(from, (from+1+d.Below(accounts-1))%accounts, 0, 1+int64(d.Below(2)))))
		}
		b := balances(held(d.Below(accounts), 0, pos(int64(d.Below(2)))))
		agrees(t, b, l)
		found := ringsAgain(b, l)
		if len(found) > 1 {
			two++
		}
		if slices.ContainsFunc(found, func(ring []int) bool { return len(ring) > 4 }) {
			long++
		}
	}
	if min(two, long) < 100 {
		t.Errorf("there were two rings %d times, and a long one %d times", two, long)
	}
}

// TestThrownWrong: the same of wishes and balances in which often something is wrong.
func TestThrownWrong(t *testing.T) {
	d := proof.Dice(2403)
	seen := map[api.Errno]int{}
	for range 20000 {
		b, l := throwBalances(&d, 3), throwWishes(&d, 1+d.Below(4), 3)
		spoilt(&d, b, l)
		agrees(t, b, l)
		seen[wrongAgain(b, l)]++
	}
	for _, no := range []api.Errno{api.OK, api.ErrArg, api.ErrTwice, api.ErrShort, api.ErrMany, api.ErrAccount, api.ErrSame, api.ErrAsset, api.ErrAmount, api.ErrMark, api.ErrOver} {
		if seen[no] < 50 {
			t.Errorf("%v only %d times", no, seen[no])
		}
	}
}

// eachList goes through all lists of up to so many wishes, each of one leg of these.
func eachList(start []api.Wish, of []api.Leg, count int, visit func(l []api.Wish)) {
	visit(start)
	if count == 0 {
		return
	}
	for _, x := range of {
		eachList(append(slices.Clone(start), wish(len(start)+1, x)), of, count-1, visit)
	}
}

// TestAllSmall holds all calls of all lists of up to three wishes of one leg, between three accounts, with thrown priorities and times, over a few balances, against the second reckoning.
func TestAllSmall(t *testing.T) {
	var of []api.Leg
	for from := range 3 {
		for _, to := range ints((from+1)%3, (from+2)%3) {
			of = append(of, leg(from, to, 0, 1), leg(from, to, 0, 2))
		}
	}
	over := [][]api.Balance{
		nil, balances(held(0, 0, pos(1))), balances(held(0, 0, pos(2)), held(1, 0, pos(most-1))),
		balances(held(0, 0, pos(0, 1, 5)), held(1, 0, pos(1, 1, most-2)), held(2, 0, pos(1))),
	}
	d := proof.Dice(2404)
	eachList(nil, of, 3, func(l []api.Wish) {
		for x := range l {
			l[x].Priority, l[x].Came = d.Below(2), d.Below(2)
		}
		for _, b := range over {
			agrees(t, b, l)
		}
	})
}

// TestAllOrders holds Choose of a few wishes that can't all settle, with all priorities and times of three, against the second reckoning.
func TestAllOrders(t *testing.T) {
	legs := [][]api.Leg{{leg(0, 1, 0, 2)}, {leg(0, 2, 0, 1), leg(2, 1, 1, 3)}, {leg(0, 1, 0, 3)}}
	for _, b := range [][]api.Balance{
		balances(held(0, 0, pos(3)), held(2, 1, pos(3))), balances(held(0, 0, pos(5)), held(2, 1, pos(3))),
		balances(held(0, 0, pos(6)), held(1, 0, pos(most-3)), held(2, 1, pos(3))),
	} {
		for ranks := range 27 * 27 {
			var l []api.Wish
			for x, rest := 0, ranks; x < 3; x, rest = x+1, rest/9 {
				l = append(l, ranked(1+x, rest%3, rest/3%3, legs[x]...))
			}
			agrees(t, b, l)
		}
	}
}
