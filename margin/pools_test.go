package margin_test

import (
	"math"
	"slices"
	"testing"

	"custody/api"
	"custody/proof"
)

const ten18 = 1000000000000000000

// P25.9

func TestValue(t *testing.T) {
	for _, x := range []struct {
		qty, price     int64
		haircut, scale int
		want           int64
	}{
		{10, 100, 0, 0, 1000},
		{10, 100, 1000, 0, 900},
		{10, 12345, 500, 2, 1172},
		// each at 0
		{0, 100, 0, 0, 0},
		{10, 0, 0, 0, 0},
		{10, 100, 10000, 0, 0},
		{0, 0, 0, 0, 0},
		{0, most, 0, 0, 0},
		{most, 0, 0, 0, 0},
		{most, most, 10000, 0, 0},
		{most, 1, 10000, 0, 0},
		// rounded down, once
		{1, 9, 0, 1, 0},
		{1, 10, 0, 1, 1},
		{1, 19, 0, 1, 1},
		{3, 5, 0, 1, 1},
		{1, 1, 1, 0, 0},
		{10000, 1, 1, 0, 9999},
		{9999, 1, 1, 0, 9998},
		{1, 19, 1000, 1, 1}, // 1.71: of a price that was rounded first it would be 0.9
		{2, 15, 3333, 1, 2}, // 2.0001
		{2, 15, 3334, 1, 1}, // 1.9998
		{3, 10, 6667, 1, 0}, // 0.9999
		{3, 10, 6666, 1, 1}, // 1.0002
		{1, 1, 9999, 0, 0},
		{10000, 1, 9999, 0, 1},
		{9999, 1, 9999, 0, 0},
		// the ends
		{most, 1, 0, 0, most},
		{1, most, 0, 0, most},
		{most, ten18, 0, 18, most},
		{most, 2, 5000, 0, most},
		{most, 10000, 9999, 0, most},
		{most, 2 * ten18, 5000, 18, most},
		{most, most, 10000, 18, 0},
		{1, 1, 0, 18, 0},
		{ten18, 1, 0, 18, 1},
		{ten18 - 1, 1, 0, 18, 0},
		{1, ten18, 0, 18, 1},
		{most, 1, 9999, 18, 0},
		{most, 1, 0, 18, 9}, // 9.22
		{most, most, 9999, 18, 8507059173023461},
	} {
		worth(t, pool(x.qty, x.price, x.haircut), x.scale, x.want, api.OK)
	}
}

// TestValueIsOver: just one above the greatest amount, also where the product is far beyond 64 bits.
func TestValueIsOver(t *testing.T) {
	for _, x := range []struct {
		qty, price     int64
		haircut, scale int
	}{
		{1 << 62, 2, 0, 0},
		{2, 1 << 62, 0, 0},
		{1 << 62, 4, 5000, 0},
		{1 << 62, 2 * ten18, 0, 18},
		{1 << 62, 4 * ten18, 5000, 18},
		{1 << 62, 4, 0, 0},        // 2^64
		{1 << 62, 8, 0, 0},        // and more
		{1 << 62, 1 << 62, 0, 18}, // 21 * 10^18
		{most, most, 0, 18},
		{most, most, 0, 0},
		{most, most, 9999, 0},
		{most, most, 9000, 17},
	} {
		worth(t, pool(x.qty, x.price, x.haircut), x.scale, 0, api.ErrOver)
	}
	d := proof.Dice(2511)
	edges := 0
	for range 3000 {
		// The least quantity whose value is above MaxAmount, and the one below it.
		p, scale := pool(most, int64(d.Next()>>(1+d.Below(60))), d.Below(10000)), d.Below(19)
		if _, no := valueAgain(p, scale); no != api.ErrOver {
			continue
		}
		low, high := int64(0), int64(most)
		for high-low > 1 {
			p.Qty = low + (high-low)/2
			if _, no := valueAgain(p, scale); no == api.ErrOver {
				high = p.Qty
			} else {
				low = p.Qty
			}
		}
		p.Qty = high
		worth(t, p, scale, 0, api.ErrOver)
		p.Qty = low
		want, _ := valueAgain(p, scale)
		worth(t, p, scale, want, api.OK)
		edges++
	}
	if edges < 1000 {
		t.Errorf("%d edges", edges)
	}
}

// TestWrongPool goes through Value's errors, each ahead of the next; Limit and Draw tell them as well.
func TestWrongPool(t *testing.T) {
	wrong := func(p api.Pool, scale int, no api.Errno) {
		t.Helper()
		worth(t, p, scale, 0, no)
		limits(t, pools(p), scale, 0, no)
		draws(t, pools(p), 0, scale, nil, no)
		draws(t, pools(p), most, scale, nil, no) // ahead of ErrCover
	}
	for _, scale := range []int{-1, 19, math.MinInt, math.MaxInt, 1 << 32} {
		for _, p := range pools(pool(1, 1, 0), pool(-1, 1, 0), pool(1, -1, 0), pool(1, 1, -1), pool(1, 1, 10001), pool(most, most, 0), pool(-1, -1, -1)) {
			wrong(p, scale, api.ErrArg)
		}
	}
	for _, n := range amounts(-1, -2, least, least+1) {
		for _, other := range amounts(0, 1, -1, most, least) {
			for _, haircut := range []int{0, 10000, -1, 10001, math.MinInt, math.MaxInt} {
				for _, scale := range []int{0, 18} {
					wrong(pool(n, other, haircut), scale, api.ErrAmount)
					wrong(pool(other, n, haircut), scale, api.ErrAmount)
				}
			}
		}
	}
	for _, haircut := range []int{-1, 10001, math.MinInt, math.MaxInt, 1<<32 + 5} {
		for _, p := range pools(pool(0, 0, haircut), pool(1, 1, haircut), pool(most, most, haircut), pool(most, 0, haircut)) {
			for _, scale := range []int{0, 18} {
				wrong(p, scale, api.ErrArg)
			}
		}
	}
	wrong(pool(most, most, 0), 0, api.ErrOver)
	wrong(pool(most, most, 0), 18, api.ErrOver)
}

// TestAssetIsNotLookedAt is P25.9's last word.
func TestAssetIsNotLookedAt(t *testing.T) {
	for _, asset := range []int{0, 1, -1, 65536, math.MinInt, math.MaxInt} {
		p := api.Pool{Asset: asset, Qty: 10, Price: 100, Haircut: 1000}
		worth(t, p, 0, 900, api.OK)
		limits(t, pools(p, p), 0, 1800, api.OK)
		draws(t, pools(p, p), 950, 0, amounts(10, 1), api.OK)
	}
}

// P25.10

func TestLimit(t *testing.T) {
	one := pool(1, 1, 0)
	for _, x := range []struct {
		l     []api.Pool
		scale int
		want  int64
		no    api.Errno
	}{
		{nil, 0, 0, api.OK},
		{pools(pool(0, 0, 0)), 0, 0, api.OK},
		{pools(pool(3, 5, 0), pool(2, 100, 1000), pool(7, 7, 10000)), 0, 195, api.OK},
		{pools(pool(1, 19, 0), pool(1, 19, 0)), 1, 2, api.OK}, // each is rounded, not the sum
		{pools(pool(most, 1, 0)), 0, most, api.OK},
		{pools(pool(most-1, 1, 0), one), 0, most, api.OK},
		{pools(pool(most, 1, 0), one), 0, 0, api.ErrOver},
		{pools(one, pool(most, 1, 0)), 0, 0, api.ErrOver},
		{pools(pool(most, 1, 0), pool(most, 1, 0), pool(2, 1, 0)), 0, 0, api.ErrOver}, // 2^64
		{pools(pool(1<<62, 1, 0), pool(1<<62-1, 1, 0), pool(9, 9, 10000)), 0, most, api.OK},
		{pools(pool(1<<62, 1, 0), pool(1<<62, 1, 0)), 0, 0, api.ErrOver},
	} {
		limits(t, x.l, x.scale, x.want, x.no)
	}
}

// TestManyPools: as many as there may be, and one more, whatever is wrong with them.
func TestManyPools(t *testing.T) {
	l := slices.Repeat(pools(pool(2, 3, 0)), 4097)
	limits(t, l[:4096], 0, 6*4096, api.OK)
	all := slices.Repeat(amounts(2), 4096)
	draws(t, l[:4096], 6*4096, 0, all, api.OK)
	draws(t, l[:4096], 6*4096+1, 0, nil, api.ErrCover)
	none := slices.Concat(amounts(2, 2, 1), make([]int64, 4093))
	draws(t, l[:4096], 13, 0, none, api.OK)
	for _, p := range pools(pool(2, 3, 0), pool(-1, 0, 0), pool(0, 0, 10001), pool(most, most, 0)) {
		l[0] = p
		for _, scale := range []int{0, -1, 19} {
			limits(t, l, scale, 0, api.ErrMany)
			for _, need := range amounts(0, 1, -1, most) {
				draws(t, l, need, scale, nil, api.ErrMany)
			}
		}
	}
	for i := range l[:4096] {
		l[i] = pool(most, 1, 0)
	}
	limits(t, l[:4096], 0, 0, api.ErrOver)
	draws(t, l[:4096], most, 0, append(amounts(most), make([]int64, 4095)...), api.OK)
}

// TestWrongPools: each pool's errors ahead of the next one's, and all of them ahead of what the pools are together.
func TestWrongPools(t *testing.T) {
	wrong := []struct {
		p  api.Pool
		no api.Errno
	}{{pool(-1, 1, 0), api.ErrAmount}, {pool(1, -1, 0), api.ErrAmount}, {pool(1, 1, 10001), api.ErrArg}, {pool(most, 2, 0), api.ErrOver}}
	for _, x := range wrong {
		for _, y := range wrong {
			for _, l := range [][]api.Pool{pools(x.p, y.p), pools(pool(1, 1, 0), x.p, y.p), pools(x.p, pool(1, 1, 0), y.p), pools(pool(most, 1, 0), pool(most, 1, 0), x.p, y.p)} {
				limits(t, l, 0, 0, x.no)
				draws(t, l, 0, 0, nil, x.no)
				draws(t, l, 1, 0, nil, x.no)
				draws(t, l, most, 0, nil, x.no)
				draws(t, l, -1, 0, nil, api.ErrAmount)
				limits(t, l, 19, 0, api.ErrArg)
				draws(t, l, 0, 19, nil, api.ErrArg)
				draws(t, l, -1, 19, nil, api.ErrAmount)
			}
		}
	}
}

// TestNoPools: there is nothing whose scale could be wrong.
func TestNoPools(t *testing.T) {
	for _, l := range [][]api.Pool{nil, {}, make([]api.Pool, 0, 3)} {
		for _, scale := range []int{0, 18, 19, -1} {
			limits(t, l, scale, 0, api.OK)
			draws(t, l, 0, scale, nil, api.OK)
			draws(t, l, 1, scale, nil, api.ErrCover)
			draws(t, l, most, scale, nil, api.ErrCover)
			draws(t, l, -1, scale, nil, api.ErrAmount)
		}
	}
}

// P25.11

func TestDraw(t *testing.T) {
	worthless := pools(pool(9, 0, 0), pool(0, 9, 0), pool(9, 9, 10000), pool(1, 1, 1))
	equals := pools(pool(3, 10, 500), pool(3, 10, 0), pool(3, 10, 500), pool(3, 10, 0))
	for _, x := range []struct {
		l     []api.Pool
		need  int64
		scale int
		want  []int64
		no    api.Errno
	}{
		// what is needed: none, some, all, and one more
		{pools(pool(5, 1, 0)), 0, 0, amounts(0), api.OK},
		{pools(pool(5, 1, 0)), 1, 0, amounts(1), api.OK},
		{pools(pool(5, 1, 0)), 4, 0, amounts(4), api.OK},
		{pools(pool(5, 1, 0)), 5, 0, amounts(5), api.OK},
		{pools(pool(5, 1, 0)), 6, 0, nil, api.ErrCover},
		{pools(pool(5, 1, 0)), most, 0, nil, api.ErrCover},
		{pools(pool(5, 1, 0)), -1, 0, nil, api.ErrAmount},
		{pools(pool(5, 1, 0)), least, 0, nil, api.ErrAmount},
		// pools that are worth nothing
		{worthless, 0, 0, amounts(0, 0, 0, 0), api.OK},
		{worthless, 1, 0, nil, api.ErrCover},
		{append(slices.Clone(worthless), pool(2, 1, 0)), 1, 0, amounts(0, 0, 0, 0, 1), api.OK},
		// of equal haircuts in the order of the list
		{equals, 1, 0, amounts(0, 1, 0, 0), api.OK},
		{equals, 30, 0, amounts(0, 3, 0, 0), api.OK},
		{equals, 31, 0, amounts(0, 3, 0, 1), api.OK},
		{equals, 60, 0, amounts(0, 3, 0, 3), api.OK},
		{equals, 61, 0, amounts(1, 3, 0, 3), api.OK},
		{equals, 88, 0, amounts(3, 3, 0, 3), api.OK}, // 28.5 is 28
		{equals, 89, 0, amounts(3, 3, 1, 3), api.OK},
		{equals, 116, 0, amounts(3, 3, 3, 3), api.OK},
		{equals, 117, 0, nil, api.ErrCover},
		// the least quantity, also of the whole value, and where no quantity has just that value
		{pools(pool(5, 100, 0)), 101, 0, amounts(2), api.OK},
		{pools(pool(5, 100, 0)), 401, 0, amounts(5), api.OK},
		{pools(pool(10, 15, 0)), 2, 1, amounts(2), api.OK},    // 1.5 is 1, 3 is 3
		{pools(pool(10, 15, 0)), 4, 1, amounts(3), api.OK},    // 4.5
		{pools(pool(10, 1, 0)), 1, 1, amounts(10), api.OK},    // a tenth each
		{pools(pool(19, 1, 0)), 1, 1, amounts(10), api.OK},    // the whole value has no need of the other nine
		{pools(pool(19, 1, 0)), 2, 1, nil, api.ErrCover},      // 1.9
		{pools(pool(10, 10, 3333)), 6, 1, amounts(9), api.OK}, // 0.6667 each: 5.3, 6.0003
		{pools(pool(7, 10, 3333), pool(9, 1, 9000)), 4, 1, amounts(6, 0), api.OK},
		{pools(pool(19, 1, 0), pool(5, 10, 1)), 2, 1, amounts(10, 2), api.OK}, // then 1 of 0.9999 each
		// what one gives more than is needed is not taken off another
		{pools(pool(5, 100, 100), pool(5, 7, 0)), 36, 0, amounts(1, 5), api.OK},
		{pools(pool(5, 100, 100), pool(5, 7, 0)), 134, 0, amounts(1, 5), api.OK},
		{pools(pool(5, 100, 100), pool(5, 7, 0)), 135, 0, amounts(2, 5), api.OK},
		// together they are worth more than an amount, or products are beyond 64 bits
		{pools(pool(most, 1, 5), pool(most, 1, 0), pool(most, 1, 0)), most, 0, amounts(0, most, 0), api.OK},
		{pools(pool(most, 1, 9), pool(most-1, 1, 0)), most, 0, amounts(2, most-1), api.OK},
		{pools(pool(most, ten18, 0)), most, 18, amounts(most), api.OK},
		{pools(pool(most, 2*ten18, 5000)), most - 1, 18, amounts(most - 1), api.OK},
		{pools(pool(1, most, 0)), 1, 0, amounts(1), api.OK},
		{pools(pool(most, 1, 0)), 9, 18, amounts(9 * ten18), api.OK},
		{pools(pool(most, 1, 9999)), 1, 14, amounts(ten18), api.OK},
		{pools(pool(most, 1, 9999)), 9, 14, amounts(9 * ten18), api.OK},
	} {
		draws(t, x.l, x.need, x.scale, x.want, x.no)
	}
}

// TestSmallPools goes through all lists of one or two little pools, and those with a third one behind them, with all that may be needed, and tries all quantities.
func TestSmallPools(t *testing.T) {
	var some []api.Pool
	for _, haircut := range []int{0, 3334, 10000} {
		for qty := range int64(4) {
			for _, price := range amounts(0, 1, 4, 7, 10) {
				some = append(some, pool(qty, price, haircut))
			}
		}
	}
	try := func(l ...api.Pool) {
		for need := range int64(20) {
			taken, no := drawByTrying(l, need, 1)
			draws(t, l, need, 1, taken, no)
			if no != api.OK {
				break
			}
		}
	}
	for _, a := range some {
		try(a)
		for _, b := range some {
			try(a, b)
			try(a, b, pool(2, 7, 3334))
		}
	}
}

// drawByTrying tries each quantity of each pool, from none on.
func drawByTrying(l []api.Pool, need int64, scale int) ([]int64, api.Errno) {
	taken := make([]int64, len(l))
	for haircut := range 10001 {
		for i, p := range l {
			if p.Haircut != haircut {
				continue
			}
			for all, _ := valueAgain(p, scale); ; taken[i]++ {
				part, _ := valueAgain(pool(taken[i], p.Price, p.Haircut), scale)
				if part >= min(all, need) {
					need = max(0, need-part)
					break
				}
			}
		}
	}
	if need > 0 {
		return nil, api.ErrCover
	}
	return taken, api.OK
}
