package partial_test

import (
	"math/big"
	"testing"

	"custody/api"
	"custody/partial"
	"custody/proof"
)

// moneyOf is what Money answers of numbers of which none is wrong.
func moneyOf(t *testing.T, qty, amount, done, part int64) int64 {
	t.Helper()
	n, err := partial.Money(qty, amount, done, part)
	if err != nil {
		t.Fatalf("Money(%d, %d, %d, %d): %v", qty, amount, done, part, err)
	}
	return n
}

// together are the quantities and the moneys of an order's parts, and what is left of both, without bounds; none of them is below 0.
func together(t *testing.T, o *partial.Order) (*big.Int, *big.Int) {
	t.Helper()
	qty, money := new(big.Int), new(big.Int)
	q, m := o.Left()
	for _, p := range append(o.Parts(), pair{q, m}) {
		if p[0] < 0 || p[1] < 0 {
			t.Fatalf("%v are left, behind %v", pair{q, m}, o.Parts())
		}
		qty.Add(qty, big.NewInt(p[0]))
		money.Add(money, big.NewInt(p[1]))
	}
	return qty, money
}

// TestPartsAreTheWhole is P26.7 and W12: behind each call, and to the last unit.
func TestPartsAreTheWhole(t *testing.T) {
	d := proof.Dice(2611)
	ended, many := 0, 0
	for n := range 6000 {
		x := throwAny(t, &d)
		if n%2 == 0 {
			x = throwLittle(t, &d)
		}
		check := func() {
			t.Helper()
			qty, money := together(t, x.o)
			if qty.Cmp(big.NewInt(x.b.qty)) != 0 || money.Cmp(big.NewInt(x.b.amount)) != 0 {
				t.Fatalf("%+v: together %v, %v", *x.b, qty, money)
			}
			if q, m := x.o.Left(); q == 0 && m != 0 {
				t.Fatalf("%+v: %d is left of the money alone", *x.b, m)
			}
		}
		for range d.Below(15) {
			have, cash := x.throwAsk(&d)
			x.b.settle(first(x.o.Take(have, cash)))
			check()
		}
		if d.Below(2) == 0 {
			x.o.Take(most, most)
			check()
			shows(t, x.o, 0, 0, x.o.Parts()...)
		}
		if q, _ := x.o.Left(); q == 0 {
			ended++
			if len(x.o.Parts()) > 2 {
				many++
			}
		}
	}
	if ended < 2000 || many < 500 {
		t.Errorf("%d ended, %d in many parts", ended, many)
	}
}

func first(a, _ int64) int64 { return a }

// TestOneByOne is P26.7 of orders that settle by one at a time.
func TestOneByOne(t *testing.T) {
	for qty := int64(1); qty < 60; qty++ {
		for _, amount := range amounts(0, 1, 2, 7, 59, 60, 1001, 1<<62, most) {
			o := ordered(t, qty, amount, 1, 0)
			sum := int64(0)
			for n := int64(1); n <= qty; n++ {
				q, m := o.Take(1, most)
				sum += m
				if left, owed := o.Left(); q != 1 || left != qty-n || owed != amount-sum {
					t.Fatalf("of %d for %d, the part %d: %d, %d; %d, %d are left", qty, amount, n, q, m, left, owed)
				}
			}
			if sum != amount {
				t.Errorf("%d for %d: the parts have %d", qty, amount, sum)
			}
		}
	}
}

// throwRight is a quantity, an amount, what is done and two parts that come behind it, of which none is wrong.
func throwRight(d *proof.Dice) (qty, amount, done, a, b int64) {
	qty = max(1, throwAmount(d))
	amount = proof.Of(d, throwAmount(d), throwAmount(d), min(most-1, throwUpTo(d, qty)))
	done = min(qty, proof.Of(d, throwUpTo(d, qty), 0))
	a = min(qty-done, throwUpTo(d, qty-done))
	b = min(qty-done-a, proof.Of(d, throwUpTo(d, qty-done-a), qty-done-a))
	return qty, amount, done, a, b
}

// TestFair is P26.8: a part's money is its share rounded down, or one more.
func TestFair(t *testing.T) {
	d := proof.Dice(2612)
	var down, more, all int
	for range 60000 {
		qty, amount, done, part, _ := throwRight(&d)
		n := moneyOf(t, qty, amount, done, part)
		share := quotient(big.NewInt(amount), big.NewInt(part), qty).Int64()
		switch {
		case done == 0 && part == qty:
			all++
			if n != amount {
				t.Fatalf("all of %d for %d costs %d", qty, amount, n)
			}
		case done == 0 && n != share:
			t.Fatalf("Money(%d, %d, %d, %d) is %d, not %d", qty, amount, done, part, n, share)
		case n == share:
			down++
		case n-1 == share:
			more++
		default:
			t.Fatalf("Money(%d, %d, %d, %d) is %d, the share %d", qty, amount, done, part, n, share)
		}
	}
	if down < 5000 || more < 3000 || all < 500 {
		t.Errorf("%d were rounded down, %d have one more, %d are all", down, more, all)
	}
}

// TestTwoPartsAreOne is P26.8: the money of two parts, one behind the other, is that of both as one.
func TestTwoPartsAreOne(t *testing.T) {
	d := proof.Dice(2613)
	two := 0
	for range 60000 {
		qty, amount, done, a, b := throwRight(&d)
		both, one, other := moneyOf(t, qty, amount, done, a+b), moneyOf(t, qty, amount, done, a), moneyOf(t, qty, amount, done+a, b)
		if both-one != other {
			t.Fatalf("of %d for %d, behind %d: %d costs %d, then %d %d, and both %d", qty, amount, done, a, one, b, other, both)
		}
		if one > 0 && other > 0 {
			two++
		}
	}
	if two < 10000 {
		t.Errorf("%d times both had money", two)
	}
}

// TestGreaterPartsCostNoLess is P26.9.
func TestGreaterPartsCostNoLess(t *testing.T) {
	d := proof.Dice(2614)
	rose := 0
	for range 60000 {
		qty, amount, done, a, b := throwRight(&d)
		if a+b < qty-done {
			b += int64(d.Below(2))
		}
		low, high := moneyOf(t, qty, amount, done, a), moneyOf(t, qty, amount, done, a+b)
		if low > high {
			t.Fatalf("of %d for %d, behind %d: %d costs %d, and %d %d", qty, amount, done, a, low, a+b, high)
		}
		if low < high {
			rose++
		}
	}
	if rose < 10000 {
		t.Errorf("it rose %d times", rose)
	}
}

// TestTakeIsWithinBounds is P26.9: what settles is not above what is there, and its money not above cash; with cash enough it is what Part answers.
func TestTakeIsWithinBounds(t *testing.T) {
	d := proof.Dice(2615)
	bounded, whole := 0, 0
	for n := range 6000 {
		x := throwAny(t, &d)
		if n%2 == 0 {
			x = throwLittle(t, &d)
		}
		for range 1 + d.Below(8) {
			left, _ := x.o.Left()
			have, cash := x.throwAsk(&d)
			if d.Below(3) == 0 {
				cash = proof.Of(&d, x.b.amount, max(x.b.amount, most-5), max(x.b.amount, min(x.b.amount, most-1)+1))
			}
			q, m := x.o.Take(have, cash)
			x.b.settle(q)
			if q < 0 || m < 0 || q > max(0, have) || m > max(0, cash) || q == 0 && m != 0 {
				t.Fatalf("Take(%d, %d) of %+v is %d, %d", have, cash, *x.b, q, m)
			}
			if q > 0 && !mayBePart(q, left, x.b.lot, x.b.least) {
				t.Fatalf("Take(%d, %d) of %+v is %d, %d: that is no part", have, cash, *x.b, q, m)
			}
			if q > 0 && q < have && m < cash {
				bounded++
			}
			if have >= 0 && cash >= x.b.amount {
				part(t, left, x.b.lot, x.b.least, have, q, api.OK)
				whole++
			}
		}
	}
	if bounded < 1000 || whole < 3000 {
		t.Errorf("%d were below both, %d with cash enough", bounded, whole)
	}
}
