package margin_test

import (
	"math"
	"testing"

	"custody/api"
)

// P25.5

func TestHaircut(t *testing.T) {
	for _, x := range []struct {
		volatility        float64
		days, floor, want int
	}{
		{0.01, 1, 0, 100},
		{0.01, 9, 0, 300},
		{0.02, 10, 0, 633}, // 632.45
		{0.5, 2, 0, 7072},  // 7071.07
		{0.5, 3, 0, 8661},
		{0.5, 4, 0, 10000},
		{0.5, 5, 0, 10000},
		// just at a whole number, just above it, just below
		{0.0625, 1, 0, 625},
		{next(0.0625), 1, 0, 626},
		{before(0.0625), 1, 0, 625},
		{0.03125, 4, 0, 625},
		{next(0.03125), 4, 0, 626},
		{before(0.03125), 4, 0, 625},
		{before(0.03125), 4, 625, 625},
		{next(0.03125), 4, 625, 626},
		// at 0 and at all
		{0, 1, 0, 0},
		{minus0, 1, 0, 0},
		{0, 0, 0, 0},
		{tiny, 1, 0, 1},
		{1e-300, math.MaxInt, 0, 1},
		{0.0001, 1, 0, 1},
		{1, 1, 0, 10000},
		{before(1), 1, 0, 10000},
		{next(1), 1, 0, 10000},
		{0.9999, 1, 0, 9999},
		{before(0.9999), 1, 0, 9999},
		{next(0.9999), 1, 0, 10000},
		{1.5, 1, 0, 10000},
		{1, 2, 0, 10000},
		{1e6, 1, 0, 10000},
		// no days: nothing but the floor
		{0.5, 0, 0, 0},
		{0.5, 0, 7, 7},
		{huge, 0, 0, 0},
		{huge, 0, 9, 9},
		// the floor
		{0.01, 1, 99, 100},
		{0.01, 1, 100, 100},
		{0.01, 1, 101, 101},
		{0, 1, 9999, 9999},
		{0, 1, 10000, 10000},
		{0.5, 1, 10000, 10000},
		{2, 1, 10000, 10000},
		{2, 1, 9999, 10000},
		// so great that x is infinite, or more than a whole number of 64 bits
		{huge, 1, 0, 10000},
		{huge, math.MaxInt, 0, 10000},
		{huge / 10000, 1, 0, 10000},
		{1e300, 1, 17, 10000},
		{1e15, 1, 0, 10000},
		{1e19, 1, 0, 10000},
		{1e-9, math.MaxInt, 0, 10000}, // the root of the days is about 3 * 10^9
		{1e-10, math.MaxInt, 0, 3038}, // 3037.0005
		{1e-10, 1 << 62, 0, 2148},     // 2147.48
	} {
		cuts(t, x.volatility, x.days, x.floor, x.want, api.OK)
	}
}

// TestHaircutStepByStep: volatility is multiplied by the root first, and by 10000 then.
func TestHaircutStepByStep(t *testing.T) {
	found := 0
	for days := 1; days < 400; days++ {
		for n := 1; n < 10000; n += 7 {
			v := float64(n) / 10000 / math.Sqrt(float64(days))
			x := v * math.Sqrt(float64(days))
			x *= 10000
			other := v * 10000
			other *= math.Sqrt(float64(days))
			if math.Ceil(x) != math.Ceil(other) {
				found++
				cuts(t, v, days, 0, int(math.Ceil(x)), api.OK)
			}
		}
	}
	if found < 100 {
		t.Errorf("the order counted %d times", found)
	}
}

func TestWrongHaircut(t *testing.T) {
	for _, volatility := range row(nan, inf, -inf, -tiny, -0.01, -huge) {
		for _, days := range []int{-1, 0, 1} {
			cuts(t, volatility, days, 0, 0, api.ErrArg)
			cuts(t, volatility, days, 10000, 0, api.ErrArg)
		}
	}
	for _, volatility := range row(0, minus0, 0.01, 2, huge, -1, nan) {
		for _, days := range []int{-1, -2, math.MinInt} {
			cuts(t, volatility, days, 0, 0, api.ErrArg)
		}
		for _, floor := range []int{-1, 10001, math.MinInt, math.MaxInt, 1 << 32} {
			cuts(t, volatility, 1, floor, 0, api.ErrArg)
			cuts(t, volatility, 0, floor, 0, api.ErrArg)
		}
	}
}
