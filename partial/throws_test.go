package partial_test

import (
	"testing"

	"custody/partial"
	"custody/proof"
)

// thrown is an order with a book of the same.
type thrown struct {
	o *partial.Order
	b *book
}

// of is an order with its book.
func of(t *testing.T, qty, amount, lot, atLeast int64) thrown {
	t.Helper()
	return thrown{ordered(t, qty, amount, lot, atLeast), &book{qty: qty, amount: amount, lot: lot, least: atLeast}}
}

// throwLittle is an order of a little quantity for any amount.
func throwLittle(t *testing.T, d *proof.Dice) thrown {
	qty := 1 + int64(d.Below(40))
	return of(t, qty, min(most, proof.Of(d, throwAmount(d), qty*int64(d.Below(20))+int64(d.Below(40)), throwUpTo(d, 2*qty), 0)), 1+int64(d.Below(d.Below(12)+1)), proof.Of(d, 0, 0, int64(d.Below(20)), int64(d.Below(50))))
}

// throwAny is an order of any quantity.
func throwAny(t *testing.T, d *proof.Dice) thrown {
	qty := max(1, throwAmount(d))
	lot := max(1, proof.Of(d, 1, int64(d.Below(50)), throwUpTo(d, qty/3), throwUpTo(d, qty/100), throwAmount(d)))
	return of(t, qty, proof.Of(d, throwAmount(d), throwAmount(d), throwUpTo(d, qty), 0), lot, proof.Of(d, 0, 0, throwUpTo(d, qty/5), throwUpTo(d, qty), throwAmount(d)))
}

// throwAsk is what is there and what there is to pay with: mostly near to what counts of the order as it is.
func (x thrown) throwAsk(d *proof.Dice) (int64, int64) {
	left, owed := x.b.left()
	have := proof.Of(d, throwUpTo(d, left), throwUpTo(d, left/2), throwUpTo(d, left/2), throwUpTo(d, left/4), throwUpTo(d, left/4), left, most, int64(d.Number()))
	part := greatestPart(left, x.b.lot, x.b.least, func(p int64) bool { return p <= have })
	next, _ := partAbove(part, left, x.b.lot, x.b.least)
	cash := proof.Of(d, throwUpTo(d, owed), throwUpTo(d, owed/3), owed, most, most, x.b.money(part), max(0, x.b.money(part)-1), x.b.money(next), max(0, x.b.money(next)-1), 0, int64(d.Number()))
	return have, cash
}

// outcomes are how often something settled, all that was left, less than what was there, less than a part of it, or nothing.
type outcomes struct{ some, all, lots, cash, none, over int }

// ask asks the order and its book the same, once.
func (x thrown) ask(t *testing.T, d *proof.Dice, take func(have, cash int64) (int64, int64), seen *outcomes) {
	t.Helper()
	have, cash := x.throwAsk(d)
	left, _ := x.b.left()
	part, _ := partAgain(left, x.b.lot, x.b.least, max(0, have))
	qty, money := take(have, cash)
	if q, m := x.o.Take(have, cash); q != qty || m != money {
		t.Fatalf("Take(%d, %d) of %+v is %d, %d; want %d, %d", have, cash, *x.b, q, m, qty, money)
	}
	q, m := x.b.left()
	shows(t, x.o, q, m, x.b.parts...)
	switch {
	case left == 0:
		seen.over++
	case qty == left:
		seen.all++
	case qty == 0:
		seen.none++
	case qty < part:
		seen.cash++
	case qty < have:
		seen.lots++
	default:
		seen.some++
	}
}

func (s outcomes) haveSeen(t *testing.T, many int) {
	t.Helper()
	if min(s.some, s.all, s.lots, s.cash, s.none, s.over) < many {
		t.Errorf("too few of some outcomes: %+v", s)
	}
}

// TestThrownLittleOrders is P26.4 and P26.5, against one that tries each quantity.
func TestThrownLittleOrders(t *testing.T) {
	d := proof.Dice(2604)
	var seen outcomes
	for range 8000 {
		x := throwLittle(t, &d)
		for range 1 + d.Below(12) {
			x.ask(t, &d, x.b.takeByTrying, &seen)
		}
	}
	seen.haveSeen(t, 1000)
}

// TestThrownOrders is P26.4 and P26.5 of orders of any quantity, against one that looks by halves.
func TestThrownOrders(t *testing.T) {
	d := proof.Dice(2605)
	var seen outcomes
	for range 4000 {
		x := throwAny(t, &d)
		for range 1 + d.Below(12) {
			x.ask(t, &d, x.b.take, &seen)
		}
	}
	seen.haveSeen(t, 500)
}

// TestBookByHalves holds the two ways of the second reckoning against one another.
func TestBookByHalves(t *testing.T) {
	d := proof.Dice(2606)
	for range 4000 {
		x := throwLittle(t, &d)
		again := *x.b
		for range 1 + d.Below(8) {
			have, cash := x.throwAsk(&d)
			q, m := x.b.takeByTrying(have, cash)
			if p, n := again.take(have, cash); p != q || n != m {
				t.Fatalf("take(%d, %d) of %+v is %d, %d; by trying %d, %d", have, cash, again, p, n, q, m)
			}
		}
	}
}

// TestAllLittleOrders goes through little orders, behind each part, with all that may be there and all that may be paid.
func TestAllLittleOrders(t *testing.T) {
	for qty := int64(1); qty < 7; qty++ {
		for _, amount := range amounts(0, 1, 2, 5, 6, 7, 10) {
			for lot := int64(1); lot < 5; lot++ {
				for atLeast := range int64(5) {
					allTurns(t, qty, amount, lot, atLeast)
				}
			}
		}
	}
}

// allTurns asks each of two things, one behind the other, of a new order.
func allTurns(t *testing.T, qty, amount, lot, atLeast int64) {
	t.Helper()
	for first := range qty + 1 {
		for have := int64(-1); have <= qty+1; have++ {
			for cash := int64(-1); cash <= amount+1; cash++ {
				x := of(t, qty, amount, lot, atLeast)
				for _, ask := range []pair{{first, most}, {have, cash}} {
					q, m := x.b.takeByTrying(ask[0], ask[1])
					if got, money := x.o.Take(ask[0], ask[1]); got != q || money != m {
						t.Fatalf("Take(%d, %d) of %+v is %d, %d; want %d, %d", ask[0], ask[1], *x.b, got, money, q, m)
					}
				}
			}
		}
	}
}
