package partial_test

import (
	"testing"

	"custody/api"
	"custody/partial"
	"custody/proof"
)

// costs holds what Money answers against what is wanted; beside an error that is 0.
func costs(t *testing.T, qty, amount, done, part, want int64, no api.Errno) {
	t.Helper()
	if n, err := partial.Money(qty, amount, done, part); n != want || !proof.Tells(err, no) {
		t.Errorf("Money(%d, %d, %d, %d) is %d, %v; want %d, %v", qty, amount, done, part, n, err, want, no)
	}
}

// agreesOnMoney holds Money against the second reckoning.
func agreesOnMoney(t *testing.T, qty, amount, done, part int64) {
	t.Helper()
	want, no := moneyAgain(qty, amount, done, part)
	costs(t, qty, amount, done, part, want, no)
}

// P26.2

func TestMoney(t *testing.T) {
	for _, x := range []struct{ qty, amount, done, part, want int64 }{
		{10, 100, 0, 3, 30},
		{10, 100, 3, 3, 30},
		{10, 100, 3, 7, 70},
		{10, 105, 0, 3, 31},
		{10, 105, 3, 3, 32}, // 63 less 31
		{10, 105, 6, 4, 42},
		// qty 1
		{1, 0, 0, 0, 0},
		{1, 0, 0, 1, 0},
		{1, 7, 0, 0, 0},
		{1, 7, 0, 1, 7},
		{1, 7, 1, 0, 0},
		{1, most, 0, 1, most},
		// each at 0
		{10, 0, 0, 10, 0},
		{10, 0, 3, 4, 0},
		{10, 100, 0, 0, 0},
		{10, 100, 0, 10, 100},
		{10, 100, 3, 0, 0},
		{10, 100, 10, 0, 0},
		{10, 105, 3, 0, 0}, // twice the same rest
		{most, most, most, 0, 0},
		{most, most, 0, most, most},
		// both together are qty
		{10, 105, 9, 1, 11}, // 105 less 94
		{10, 105, 1, 9, 95},
		{10, 105, 5, 5, 53},
		{most, most, most - 1, 1, 1},
		{most, most, 1, most - 1, most - 1},
		{most, 1, most - 1, 1, 1},
		{most, 1, 0, most - 1, 0},
		{most, 1, 0, most, 1},
		// each quotient is rounded down by itself
		{3, 1, 0, 1, 0},
		{3, 1, 1, 1, 0},
		{3, 1, 2, 1, 1},
		{3, 1, 0, 2, 0},
		{3, 1, 1, 2, 1},
		{3, 2, 0, 1, 0},
		{3, 2, 1, 1, 1},
		{3, 2, 2, 1, 1},
		{3, 5, 0, 1, 1}, // 1.67
		{3, 5, 1, 1, 2}, // 3.33 less 1.67
		{3, 5, 2, 1, 2}, // 5 less 3.33
		{3, 5, 0, 2, 3},
		{3, 5, 1, 2, 4},
		{7, 4, 1, 1, 1},       // 1.14 less 0.57: what is between them is less than 1
		{7, 10, 1, 1, 1},      // 2.86 less 1.43: and here more
		{1000, 1, 998, 1, 0},  // 0.999 less 0.998
		{1000, 1, 999, 1, 1},  // 1 less 0.999
		{1000, 1, 500, 1, 0},  // nothing is rounded to the nearest
		{1000, 1, 0, 500, 0},  // 0.5
		{1000, 1, 0, 999, 0},  // 0.999
		{1000, 3, 0, 500, 1},  // 1.5
		{1000, 3, 0, 666, 1},  // 1.998
		{1000, 3, 666, 1, 1},  // 2.001 less 1.998
		{1000, 3, 667, 0, 0},  // 2.001 less itself
		{1000, 3, 667, 1, 0},  // 2.004 less 2.001
		{1000, 999, 1, 1, 1},  // 1.998 less 0.999
		{1000, 1999, 1, 1, 2}, // 3.998 less 1.999
		{1000, 1001, 998, 1, 1},
		{1000, 1001, 999, 1, 2}, // 1001 less 999.999
		// products beyond 64 bits
		{most, most, 5, 7, 7},
		{most, most, 1 << 62, 1<<62 - 1, 1<<62 - 1},
		{1 << 62, most, 0, 1 << 61, 1<<62 - 1},
		{1 << 62, most, 1 << 61, 1 << 61, 1 << 62},
		{1 << 62, most, 1, 1, 2}, // just less than 4 less just less than 2
		{1 << 62, most, 0, 1, 1},
		{most - 1, most, 0, most - 2, most - 2},
		{most - 1, most, most - 2, 1, 2},
		{most, most - 1, 0, 1, 0},
		{most, most - 1, 1, 1, 1},
		{3, most, 0, 1, 3074457345618258602},
		{3, most, 1, 1, 3074457345618258602},
		{3, most - 1, 1, 1, 3074457345618258602},
		{3, most - 2, 0, 1, 3074457345618258601},
		{3, most - 2, 1, 1, 3074457345618258602},
		{3, most - 2, 2, 1, 3074457345618258602},
		{4, most, 1, 3, most - 2305843009213693951},
	} {
		costs(t, x.qty, x.amount, x.done, x.part, x.want, api.OK)
	}
}

func TestWrongMoney(t *testing.T) {
	right := amounts(0, 1, 100, most)
	for _, a := range right {
		for _, b := range right {
			for _, c := range right {
				for _, wrong := range append(belowNothing(), 0) {
					costs(t, wrong, a, b, c, 0, api.ErrArg)
				}
				for _, wrong := range belowNothing() {
					costs(t, a, wrong, b, c, 0, api.ErrArg)
					costs(t, a, b, wrong, c, 0, api.ErrArg)
					costs(t, a, b, c, wrong, 0, api.ErrArg)
					costs(t, wrong, wrong, wrong, wrong, 0, api.ErrArg)
				}
			}
		}
	}
	// one that is below 0 is not made good by the other one
	costs(t, 10, 100, -1, 5, 0, api.ErrArg)
	costs(t, 10, 100, 5, -1, 0, api.ErrArg)
	costs(t, 10, 100, -5, 10, 0, api.ErrArg)
	costs(t, 10, 100, 15, -6, 0, api.ErrArg)
	costs(t, 10, 100, least, most, 0, api.ErrArg)
	costs(t, most, 100, most, least, 0, api.ErrArg)
}

// TestMoneyOfTooMuch: both together are one above qty, or more; also where their sum is beyond 64 bits.
func TestMoneyOfTooMuch(t *testing.T) {
	for _, qty := range amounts(1, 2, 3, 10, 1<<62, most-1, most) {
		for _, done := range amounts(0, 1, qty/2, qty-1, qty) {
			if done > qty {
				continue
			}
			for _, amount := range amounts(0, 1, 10, most) {
				costs(t, qty, amount, done, qty-done, moneyUpToEnd(qty, amount, done), api.OK)
				if qty-done < most {
					costs(t, qty, amount, done, qty-done+1, 0, api.ErrArg)
					costs(t, qty, amount, qty-done+1, done, 0, api.ErrArg)
				}
				if done > 0 {
					costs(t, qty, amount, done, most, 0, api.ErrArg)
					costs(t, qty, amount, most, done, 0, api.ErrArg)
				}
				if qty < most {
					costs(t, qty, amount, qty+1, 0, 0, api.ErrArg)
					costs(t, qty, amount, 0, qty+1, 0, api.ErrArg)
					costs(t, qty, amount, most, most, 0, api.ErrArg)
				}
			}
		}
	}
	costs(t, most, 10, most, 1, 0, api.ErrArg)
	costs(t, most, 10, 1, most, 0, api.ErrArg)
	costs(t, most, 10, most, most, 0, api.ErrArg)
	costs(t, most, 10, 1<<62, 1<<62, 0, api.ErrArg)
	costs(t, 3, 10, 1<<62+1, 1<<62+1, 0, api.ErrArg)
	costs(t, 3, 10, most, most, 0, api.ErrArg)
}

// moneyUpToEnd is the amount less the money of what has settled.
func moneyUpToEnd(qty, amount, done int64) int64 {
	n, _ := moneyAgain(qty, amount, 0, done)
	return amount - n
}

// TestMoneyOfLittleNumbers goes through every four little numbers.
func TestMoneyOfLittleNumbers(t *testing.T) {
	for qty := int64(-1); qty < 12; qty++ {
		for amount := int64(-1); amount < 27; amount++ {
			for done := int64(-1); done < 13; done++ {
				for part := int64(-1); part < 13; part++ {
					want, no := int64(0), api.ErrArg
					if qty >= 1 && amount >= 0 && done >= 0 && part >= 0 && done+part <= qty {
						want, no = amount*(done+part)/qty-amount*done/qty, api.OK
					}
					costs(t, qty, amount, done, part, want, no)
				}
			}
		}
	}
}

// TestThrownMoney holds Money of any numbers against the second reckoning.
func TestThrownMoney(t *testing.T) {
	d := proof.Dice(2602)
	var wrong, none, same, more int
	for range 60000 {
		qty := proof.Of(&d, throwAmount(&d), throwAmount(&d), int64(d.Number()))
		amount := proof.Of(&d, throwAmount(&d), throwAmount(&d), throwUpTo(&d, qty), int64(d.Number()))
		done := proof.Of(&d, throwUpTo(&d, qty), throwUpTo(&d, qty), 0, int64(d.Number()))
		part := proof.Of(&d, throwUpTo(&d, qty-done), throwUpTo(&d, qty-done), 0, int64(d.Number()))
		agreesOnMoney(t, qty, amount, done, part)
		n, no := moneyAgain(qty, amount, done, part)
		if no != api.OK {
			wrong++
			continue
		}
		switch alone, _ := moneyAgain(qty, amount, 0, part); {
		case n == 0:
			none++
		case n == alone:
			same++
		default:
			more++
		}
	}
	if wrong < 3000 || none < 3000 || same < 3000 || more < 3000 {
		t.Errorf("%d were wrong, %d cost nothing, %d what they cost alone, %d more", wrong, none, same, more)
	}
}
