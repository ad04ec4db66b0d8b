package links_test

import (
	"math"
	"slices"
	"testing"

	"custody/api"
	"custody/proof"
)

// TestPoolOfNone is P23.5: no legs, in whatever lists.
func TestPoolOfNone(t *testing.T) {
	for _, l := range [][][]api.Leg{nil, {}, {nil}, {{}}, {nil, {}, nil}, make([][]api.Leg, 100)} {
		pooled(t, l, nil, api.ErrShort)
	}
}

// TestPoolOfLists is P23.5: it is of no weight how legs are spread over lists, and empty ones count for nothing.
func TestPoolOfLists(t *testing.T) {
	a, b, c := proof.Leg(1, 2, 3, 4, 5), proof.Leg(1, 2, 3, 6, 5), proof.Leg(1, 2, 4, 7, 5)
	want := []api.Leg{proof.Leg(1, 2, 3, 10, 5), c}
	for _, l := range [][][]api.Leg{{{a, c, b}}, {{a}, {c}, {b}}, {nil, {a, c}, {}, {b}, nil}, {{a}, {c, b}}} {
		pooled(t, l, want, nil)
	}
	pooled(t, [][]api.Leg{{c}, {b, a}}, []api.Leg{c, proof.Leg(1, 2, 3, 10, 5)}, nil)
	pooled(t, [][]api.Leg{{a}}, []api.Leg{a}, nil)
}

// TestPoolOfUnlikeLegs is P23.5: legs that differ in one of the four alone stay apart, however small the difference; nothing else is looked at.
func TestPoolOfUnlikeLegs(t *testing.T) {
	one := proof.Leg(1, 1, 1, 1, 1) // from an account to itself, which is none of a leg's faults here
	for _, n := range []int{0, 2, -1, math.MaxInt, math.MinInt} {
		for _, other := range []api.Leg{proof.Leg(n, 1, 1, 1, 1), proof.Leg(1, n, 1, 1, 1), proof.Leg(1, 1, n, 1, 1), proof.Leg(1, 1, 1, 1, n)} {
			pooled(t, [][]api.Leg{{one, other}, {one, other, other}}, []api.Leg{proof.Leg(1, 1, 1, 2, 1), proof.Leg(other.From, other.To, other.Asset, 3, other.Name)}, nil)
		}
	}
	there, back := proof.Leg(1, 2, 3, 4, 0), proof.Leg(2, 1, 3, 4, 0)
	pooled(t, [][]api.Leg{{there}, {back}}, []api.Leg{there, back}, nil)
}

// TestPoolAmounts is P23.5: quantities below 1, and sums up to the greatest amount and one more, leg by leg.
func TestPoolAmounts(t *testing.T) {
	const most = api.MaxAmount
	for _, wrong := range []int64{0, -1, math.MinInt64, -most} {
		pooled(t, [][]api.Leg{moves(wrong)}, nil, api.ErrAmount)
		pooled(t, [][]api.Leg{moves(1), moves(wrong)}, nil, api.ErrAmount)
		pooled(t, [][]api.Leg{moves(most, wrong, 1)}, nil, api.ErrAmount)
		pooled(t, [][]api.Leg{moves(most, 1, wrong)}, nil, api.ErrOver)
		pooled(t, [][]api.Leg{moves(most), {proof.Leg(7, 8, 9, wrong, 0)}, moves(1)}, nil, api.ErrAmount)
	}
	for _, right := range [][]int64{{most}, {most - 1, 1}, {1, most - 1}, {1 << 62, 1<<62 - 1}, {1, 2, most - 3}} {
		pooled(t, [][]api.Leg{moves(right...)}, moves(most), nil)
		pooled(t, [][]api.Leg{moves(right...), moves(1)}, nil, api.ErrOver)
		pooled(t, [][]api.Leg{moves(1), moves(right...)}, nil, api.ErrOver)
		pooled(t, [][]api.Leg{moves(right...), moves(most)}, nil, api.ErrOver)
	}
	pooled(t, [][]api.Leg{moves(most, most)}, nil, api.ErrOver)
	pooled(t, [][]api.Leg{slices.Repeat(moves(1<<60), 8)}, nil, api.ErrOver)
	// Each way has a sum of its own.
	pooled(t, [][]api.Leg{moves(most), {proof.Leg(1, 0, 2, most, 3)}}, append(moves(most), proof.Leg(1, 0, 2, most, 3)), nil)
}

// apart are so many legs of which each moves another asset.
func apart(n int) []api.Leg {
	var l []api.Leg
	for asset := range n {
		l = append(l, proof.Leg(0, 1, asset, 1, 0))
	}
	return l
}

// TestPoolOfMany is P23.5: at most MaxLegs are left, however many they were; all else that is wrong is told ahead of that.
func TestPoolOfMany(t *testing.T) {
	pooled(t, [][]api.Leg{apart(api.MaxLegs)}, apart(api.MaxLegs), nil)
	pooled(t, [][]api.Leg{apart(api.MaxLegs + 1)}, nil, api.ErrMany)
	pooled(t, slices.Repeat([][]api.Leg{apart(api.MaxLegs)}, 3), []api.Leg{proof.Leg(0, 1, 0, 3, 0), proof.Leg(0, 1, 1, 3, 0), proof.Leg(0, 1, 2, 3, 0), proof.Leg(0, 1, 3, 3, 0)}, nil)
	pooled(t, [][]api.Leg{slices.Repeat(moves(2), 100000)}, moves(200000), nil)
	pooled(t, [][]api.Leg{apart(5), moves(0)}, nil, api.ErrAmount)
	pooled(t, [][]api.Leg{apart(5), {proof.Leg(0, 1, 4, api.MaxAmount, 0)}}, nil, api.ErrOver)
	pooled(t, [][]api.Leg{apart(100000), apart(100000)}, nil, api.ErrMany)
	pooled(t, [][]api.Leg{apart(100000), moves(-1)}, nil, api.ErrAmount)
}

// throwLegs throws lists of legs, of few ways; seldom of quantities that are wrong or too great together.
func throwLegs(d *proof.Dice) [][]api.Leg {
	ways := d.Below(5)
	var l [][]api.Leg
	for range d.Below(5) {
		var list []api.Leg
		for range d.Below(5) {
			way := d.Below(ways + 1)
			if d.Below(30) == 0 {
				way = d.Below(16)
			}
			qty := proof.Of(d, 1, 1+int64(d.Below(9)), 1+int64(d.Below(9)), proof.Of(d, d.Qty(), 1, int64(d.Number())))
			list = append(list, proof.Leg(way&1, way>>1&1, way>>2&1, qty, way>>3))
		}
		l = append(l, list)
	}
	return l
}

// TestThrownPools is P23.5 against the second reckoning.
func TestThrownPools(t *testing.T) {
	d := proof.Dice(2310)
	seen := map[api.Errno]int{}
	for range 60000 {
		l := throwLegs(&d)
		want, fails := poolAgain(l)
		seen[number(fails)]++
		pooled(t, l, want, fails)
	}
	for _, no := range []api.Errno{api.OK, api.ErrShort, api.ErrAmount, api.ErrOver, api.ErrMany} {
		if seen[no] < 1000 {
			t.Errorf("%v only %d times", no, seen[no])
		}
	}
}

// TestAllFewLegs is P23.5 of all rows of up to four legs, of two ways and of quantities at the bounds.
func TestAllFewLegs(t *testing.T) {
	var of []api.Leg
	for _, qty := range []int64{0, 1, 1 << 62, api.MaxAmount} {
		of = append(of, proof.Leg(0, 1, 0, qty, 0), proof.Leg(0, 1, 1, qty, 0))
	}
	for n := range 5 {
		row := make([]api.Leg, n)
		for number := range 1 << (3 * n) {
			for at := range row {
				row[at] = of[number>>(3*at)&7]
			}
			for cut := range n + 1 {
				l := [][]api.Leg{row[:cut], row[cut:]}
				want, fails := poolAgain(l)
				pooled(t, l, want, fails)
			}
		}
	}
}
