package partial_test

import (
	"slices"
	"testing"

	"custody/api"
	"custody/partial"
	"custody/proof"
)

// pair is a quantity and a money.
type pair = [2]int64

// asks are a new order's have and cash, and what Take has to answer.
type asks struct{ have, cash, qty, money int64 }

// ordered is a new order.
func ordered(t *testing.T, qty, amount, lot, atLeast int64) *partial.Order {
	t.Helper()
	o, err := partial.New(qty, amount, lot, atLeast)
	if o == nil || err != nil {
		t.Fatalf("New(%d, %d, %d, %d) is %v, %v", qty, amount, lot, atLeast, o, err)
	}
	return o
}

// shows holds Left and Parts against what is wanted.
func shows(t *testing.T, o *partial.Order, qty, money int64, parts ...pair) {
	t.Helper()
	if q, m := o.Left(); q != qty || m != money {
		t.Errorf("Left is %d, %d; want %d, %d", q, m, qty, money)
	}
	if l := o.Parts(); !slices.Equal(l, parts) {
		t.Errorf("Parts are %v; want %v", l, parts)
	}
}

// takes asks Take, and holds what it answers and what is shown behind it against what is wanted; nothing may change where nothing settles.
func takes(t *testing.T, o *partial.Order, x asks) {
	t.Helper()
	qty, money := o.Left()
	parts := o.Parts()
	if q, m := o.Take(x.have, x.cash); q != x.qty || m != x.money {
		t.Errorf("Take(%d, %d) of %d, %d is %d, %d; want %d, %d", x.have, x.cash, qty, money, q, m, x.qty, x.money)
	}
	if x.qty > 0 {
		parts = append(parts, pair{x.qty, x.money})
	}
	shows(t, o, qty-x.qty, money-x.money, parts...)
}

// P26.3

func TestNew(t *testing.T) {
	for _, qty := range amounts(1, 2, 100, most-1, most) {
		for _, amount := range amounts(0, 1, 100, most-1, most) {
			for _, lot := range amounts(1, 2, qty, most) {
				for _, atLeast := range amounts(0, 1, 2, qty, most) {
					shows(t, ordered(t, qty, amount, lot, atLeast), qty, amount)
				}
			}
		}
	}
}

func TestWrongNew(t *testing.T) {
	wrong := func(qty, amount, lot, atLeast int64) {
		t.Helper()
		if o, err := partial.New(qty, amount, lot, atLeast); o != nil || !proof.Tells(err, api.ErrArg) {
			t.Errorf("New(%d, %d, %d, %d) is %v, %v", qty, amount, lot, atLeast, o, err)
		}
	}
	right := amounts(1, 2, 100, most)
	for _, a := range right {
		for _, b := range right {
			for _, c := range right {
				for _, n := range belowNothing() {
					wrong(n, a, b, c)
					wrong(a, n, b, c)
					wrong(a, b, n, c)
					wrong(a, b, c, n)
					wrong(n, n, n, n)
				}
				wrong(0, a, b, c)
				wrong(a, b, 0, c)
			}
		}
	}
	wrong(0, 0, 1, 0)
	wrong(1, 0, 0, 0)
	wrong(0, 0, 0, 0)
}

// TestWholeOrNotAtAll is P26.3: lot or the least quantity are above qty, or at it.
func TestWholeOrNotAtAll(t *testing.T) {
	for _, x := range [][2]int64{{101, 0}, {1, 101}, {101, 101}, {most, 0}, {1, most}, {most, most}, {100, 0}, {1, 100}, {100, 100}, {51, 52}, {7, 99}} {
		o := ordered(t, 100, 1001, x[0], x[1])
		for _, no := range []asks{{99, most, 0, 0}, {98, 1001, 0, 0}, {100, 1000, 0, 0}, {most, 1000, 0, 0}, {1, most, 0, 0}, {50, most, 0, 0}} {
			takes(t, o, no)
		}
		takes(t, o, asks{100, 1001, 100, 1001})
		takes(t, o, asks{100, 1001, 0, 0})
	}
}

// P26.4 and P26.5

func TestTake(t *testing.T) {
	for _, x := range []struct {
		qty, amount, lot, least int64
		asks                    []asks
	}{
		// what is there: below 0, none, less than a lot, lots, at what is left and above it
		{100, 1000, 10, 20, []asks{{-1, 5000, 0, 0}, {least, most, 0, 0}, {0, 5000, 0, 0}, {9, 5000, 0, 0}, {19, 5000, 0, 0}, {20, 5000, 20, 200}, {79, 5000, 70, 700}, {9, 5000, 0, 0}, {10, 5000, 10, 100}, {10, 5000, 0, 0}}},
		{100, 1000, 10, 20, []asks{{100, 5000, 100, 1000}}},
		{100, 1000, 10, 20, []asks{{101, 1000, 100, 1000}}},
		{100, 1000, 10, 20, []asks{{most, most, 100, 1000}, {most, most, 0, 0}, {0, 0, 0, 0}, {1, 0, 0, 0}, {-1, -1, 0, 0}, {least, least, 0, 0}}},
		// cash: below 0, none, one below the money of a part, at it, and above it
		{100, 1000, 10, 20, []asks{{100, -1, 0, 0}, {100, least, 0, 0}, {100, 0, 0, 0}, {100, 199, 0, 0}, {100, 200, 20, 200}, {80, 200, 20, 200}, {60, 299, 20, 200}, {40, 399, 30, 300}, {10, 99, 0, 0}, {10, 100, 10, 100}}},
		{100, 1000, 10, 20, []asks{{100, 999, 90, 900}, {10, 99, 0, 0}, {11, 101, 10, 100}}},
		{100, 1000, 10, 20, []asks{{100, 1000, 100, 1000}}},
		// money is rounded, and so is what cash covers
		{3, 10, 1, 0, []asks{{3, 2, 0, 0}, {3, 3, 1, 3}, {2, 2, 0, 0}, {2, 3, 1, 3}, {1, 3, 0, 0}, {1, 4, 1, 4}}},
		{3, 10, 1, 0, []asks{{3, 5, 1, 3}, {3, 6, 1, 3}, {3, 4, 1, 4}}},
		{3, 10, 1, 0, []asks{{3, 6, 2, 6}, {3, 3, 0, 0}, {3, 4, 1, 4}}},
		{3, 10, 1, 0, []asks{{3, 9, 2, 6}}},
		{3, 10, 1, 0, []asks{{1, 10, 1, 3}, {2, 6, 1, 3}, {2, 4, 1, 4}}},
		{3, 10, 1, 0, []asks{{1, 10, 1, 3}, {2, 7, 2, 7}}},
		{3, 5, 1, 0, []asks{{3, 1, 1, 1}, {3, 1, 0, 0}, {3, 2, 1, 2}, {3, 1, 0, 0}, {3, 2, 1, 2}}},
		{7, 4, 1, 0, []asks{{1, 0, 1, 0}, {7, 0, 0, 0}, {7, 1, 2, 1}, {7, 0, 0, 0}, {7, 1, 2, 1}, {7, 1, 1, 1}, {7, 0, 0, 0}, {7, 1, 1, 1}}},
		// parts whose money is 0
		{10, 0, 1, 0, []asks{{3, 0, 3, 0}, {10, -1, 0, 0}, {3, 5, 3, 0}, {most, 0, 4, 0}, {most, 0, 0, 0}}},
		{10, 0, 3, 4, []asks{{5, 0, 0, 0}, {10, -1, 0, 0}, {10, least, 0, 0}, {6, 0, 6, 0}, {3, 0, 0, 0}, {4, 0, 4, 0}}},
		{10, 1, 1, 0, []asks{{5, 0, 5, 0}, {5, 0, 4, 0}, {5, 0, 0, 0}, {5, 1, 1, 1}}},
		{10, 1, 1, 0, []asks{{10, 0, 9, 0}, {1, 0, 0, 0}, {1, 1, 1, 1}}},
		{10, 1, 4, 0, []asks{{10, 0, 8, 0}, {2, 0, 0, 0}, {1, 1, 0, 0}, {2, 1, 2, 1}}},
		{10, 1, 4, 9, []asks{{10, 0, 0, 0}, {9, 1, 0, 0}, {10, 1, 10, 1}}},
		{1000, 3, 10, 0, []asks{{1000, 0, 330, 0}, {1000, 0, 0, 0}, {1000, 1, 330, 1}, {1000, 1, 330, 1}, {10, 0, 0, 0}, {10, 1, 10, 1}}},
		// a part that cash doesn't cover, while a lesser one is covered; it has to be at least the least quantity
		{100, 1001, 10, 30, []asks{{70, 699, 60, 600}, {40, 400, 30, 300}, {10, 100, 0, 0}, {10, 101, 10, 101}}},
		{100, 1001, 10, 30, []asks{{70, 299, 0, 0}, {70, 300, 30, 300}}},
		{100, 1001, 30, 0, []asks{{100, 1000, 90, 900}, {10, 100, 0, 0}, {10, 101, 10, 101}}},
		{100, 1001, 30, 0, []asks{{100, 599, 30, 300}, {100, 599, 30, 300}, {100, 400, 30, 300}, {100, 100, 0, 0}, {100, 101, 10, 101}}},
		{100, 1001, 30, 0, []asks{{100, 600, 60, 600}, {100, 400, 30, 300}, {100, 101, 10, 101}}},
		// what is left may be a part only whole, and cash doesn't cover it
		{25, 250, 10, 0, []asks{{25, 249, 20, 200}, {4, 50, 0, 0}, {5, 49, 0, 0}, {5, 50, 5, 50}}},
		{25, 250, 10, 20, []asks{{20, 250, 20, 200}, {4, 50, 0, 0}, {5, 49, 0, 0}, {6, 51, 5, 50}}},
		{25, 250, 1, 13, []asks{{13, 250, 13, 130}, {11, 250, 0, 0}, {12, 119, 0, 0}, {12, 120, 12, 120}}},
		// one piece
		{1, 0, 1, 0, []asks{{0, 9, 0, 0}, {1, -1, 0, 0}, {1, 0, 1, 0}, {1, 0, 0, 0}}},
		{1, 7, 5, 9, []asks{{0, 9, 0, 0}, {1, 6, 0, 0}, {1, 7, 1, 7}, {1, 7, 0, 0}}},
		// at the end
		{most, most, 1, 0, []asks{{5, 4, 4, 4}, {7, most, 7, 7}, {most, most - 12, most - 12, most - 12}, {1, 0, 0, 0}, {1, 1, 1, 1}}},
		{most, most, 1, 0, []asks{{most, most - 1, most - 1, most - 1}, {most, 0, 0, 0}, {most, most, 1, 1}, {most, most, 0, 0}}},
		{most, most, 1, 0, []asks{{1 << 62, 1 << 62, 1 << 62, 1 << 62}, {1 << 62, 1 << 62, 1<<62 - 1, 1<<62 - 1}}},
		{most, most, most, most, []asks{{most - 1, most, 0, 0}, {most, most - 1, 0, 0}, {most, most, most, most}}},
		{most, 1, 1, 0, []asks{{most, 0, most - 1, 0}, {1, 0, 0, 0}, {1, 1, 1, 1}}},
		{most, 2, 1, 0, []asks{{most, 0, 1<<62 - 1, 0}, {most, 0, 0, 0}, {most, 1, 1<<62 - 1, 1}, {most, 1, 1, 1}}},
		{1, most, 1, 0, []asks{{1, most - 1, 0, 0}, {1, most, 1, most}}},
		{2, most, 1, 0, []asks{{2, 1<<62 - 2, 0, 0}, {2, 1<<62 - 1, 1, 1<<62 - 1}, {2, 1<<62 - 1, 0, 0}, {2, 1 << 62, 1, 1 << 62}}},
		{1 << 62, most, 1, 0, []asks{{1 << 62, 0, 0, 0}, {1 << 62, 1, 1, 1}, {1 << 62, 1, 0, 0}, {1 << 62, 2, 1, 2}, {1 << 62, most - 4, 1<<62 - 3, most - 5}, {1, 1, 0, 0}, {1, 2, 1, 2}}},
		{most - 1, most, 3, 0, []asks{{most, most - 1, most - 4, most - 4}, {2, 3, 0, 0}, {3, 3, 0, 0}, {3, 4, 3, 4}}},
	} {
		o := ordered(t, x.qty, x.amount, x.lot, x.least)
		shows(t, o, x.qty, x.amount)
		for _, a := range x.asks {
			takes(t, o, a)
		}
		if t.Failed() {
			t.Fatalf("of %d, %d, %d, %d", x.qty, x.amount, x.lot, x.least)
		}
	}
}

// TestCashAtTheMoney: of each quantity that may be a part the money covers it, and one less doesn't.
func TestCashAtTheMoney(t *testing.T) {
	for _, amount := range amounts(0, 1, 7, 30, 31, 90, 1000, most) {
		for done := range int64(30) {
			settled := func() *partial.Order {
				o := ordered(t, 30, amount, 1, 0)
				o.Take(done, most)
				return o
			}
			for p := int64(1); p <= 30-done; p++ {
				money, _ := moneyAgain(30, amount, done, p)
				if q, m := settled().Take(p, money); q != p || m != money {
					t.Errorf("behind %d of 30 for %d: Take(%d, %d) is %d, %d", done, amount, p, money, q, m)
				}
				if q, m := settled().Take(p, money-1); q >= p || m >= max(1, money) {
					t.Errorf("behind %d of 30 for %d: Take(%d, %d) is %d, %d", done, amount, p, money-1, q, m)
				}
			}
		}
	}
}

// TestWhatDoesNotSettleChangesNothing: however often it is asked for.
func TestWhatDoesNotSettleChangesNothing(t *testing.T) {
	d := proof.Dice(2603)
	o := ordered(t, 100, 1001, 10, 20)
	takes(t, o, asks{35, 300, 30, 300})
	for range 2000 {
		have, cash := int64(d.Number()), int64(d.Number())
		switch d.Below(3) {
		case 0:
			have = min(have, 19)
		case 1:
			cash = min(cash, 199)
		case 2:
			have, cash = min(have, 19), min(cash, 199)
		}
		takes(t, o, asks{have, cash, 0, 0})
	}
	takes(t, o, asks{20, 200, 20, 200})
}
