package partial_test

import (
	"math/big"

	"custody/api"
	"custody/proof"
)

// The second reckoning takes the chapter's words one by one, over numbers of any size.

// mayBePart is what the chapter says of a quantity.
func mayBePart(p, left, lot, atLeast int64) bool {
	return p >= 1 && (p == left || p < left && p%lot == 0 && p >= atLeast)
}

// partAbove is the least quantity above p that may be a part, or none.
func partAbove(p, left, lot, atLeast int64) (int64, bool) {
	if p >= left {
		return 0, false
	}
	lots := new(big.Int).Sub(big.NewInt(max(p+1, atLeast)), big.NewInt(1))
	lots.Div(lots, big.NewInt(lot)).Add(lots, big.NewInt(1)) // of a quantity of 0 or above: as many lots as hold it
	if n := lots.Mul(lots, big.NewInt(lot)); n.Cmp(big.NewInt(left)) < 0 && n.Sign() > 0 {
		return n.Int64(), true
	}
	return left, true
}

// greatestPart is the greatest quantity that may be a part and for which fits is so, looked for by halves: if it is so for a quantity, it has to be for all that are less.
func greatestPart(left, lot, atLeast int64, fits func(p int64) bool) int64 {
	best := int64(0)
	for step := int64(1 << 62); step > 0; step /= 2 {
		if best > left-step {
			continue
		}
		if p, ok := partAbove(best+step-1, left, lot, atLeast); ok && fits(p) {
			best = p
		}
	}
	return best
}

func partAgain(left, lot, atLeast, have int64) (int64, api.Errno) {
	if left < 0 || lot < 1 || atLeast < 0 || have < 0 {
		return 0, api.ErrArg
	}
	return greatestPart(left, lot, atLeast, func(p int64) bool { return p <= have }), api.OK
}

// quotient is a b / c rounded down.
func quotient(a, b *big.Int, c int64) *big.Int {
	n := new(big.Int).Mul(a, b)
	return n.Div(n, big.NewInt(c))
}

func moneyAgain(qty, amount, done, part int64) (int64, api.Errno) {
	both := new(big.Int).Add(big.NewInt(done), big.NewInt(part))
	if qty < 1 || amount < 0 || done < 0 || part < 0 || both.Cmp(big.NewInt(qty)) > 0 {
		return 0, api.ErrArg
	}
	n := quotient(big.NewInt(amount), both, qty)
	return n.Sub(n, quotient(big.NewInt(amount), big.NewInt(done), qty)).Int64(), api.OK
}

// book is an order as the second reckoning keeps it.
type book struct {
	qty, amount, lot, least int64
	parts                   [][2]int64
}

// left goes through all parts anew.
func (b *book) left() (int64, int64) {
	qty, money := b.qty, b.amount
	for _, p := range b.parts {
		qty, money = qty-p[0], money-p[1]
	}
	return qty, money
}

// money is that of a quantity that comes behind what has settled.
func (b *book) money(p int64) int64 {
	left, _ := b.left()
	n, _ := moneyAgain(b.qty, b.amount, b.qty-left, p)
	return n
}

func (b *book) take(have, cash int64) (int64, int64) {
	left, _ := b.left()
	return b.settle(greatestPart(left, b.lot, b.least, func(p int64) bool { return p <= have && b.money(p) <= cash }))
}

// takeByTrying tries each quantity, the greatest first.
func (b *book) takeByTrying(have, cash int64) (int64, int64) {
	left, _ := b.left()
	for p := left; p > 0; p-- {
		if mayBePart(p, left, b.lot, b.least) && p <= have && b.money(p) <= cash {
			return b.settle(p)
		}
	}
	return 0, 0
}

func (b *book) settle(p int64) (int64, int64) {
	if p == 0 {
		return 0, 0
	}
	money := b.money(p)
	b.parts = append(b.parts, [2]int64{p, money})
	return p, money
}

// throwUpTo is a number from 0 to n, or one above it; often about its ends.
func throwUpTo(d *proof.Dice, n int64) int64 {
	n = min(max(n, 0), most-1)
	return proof.Of(d, int64(d.Next()%uint64(n+1)), int64(d.Next()%uint64(n+1)), int64(d.Next()%uint64(n+1)), min(n, int64(d.Below(5))), max(0, n-int64(d.Below(5))), n+1)
}

// throwAmount is an amount of any size.
func throwAmount(d *proof.Dice) int64 {
	return proof.Of(d, int64(d.Below(10)), int64(d.Below(200)), int64(d.Next()>>(1+d.Below(63))), int64(d.Next()>>1), most-int64(d.Below(10)))
}
