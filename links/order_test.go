package links_test

import (
	"math"
	"slices"
	"testing"

	"custody/api"
	"custody/proof"
)

// TestOrderOfHowMany is P23.2: n below 0, none, one, the most, and more.
func TestOrderOfHowMany(t *testing.T) {
	for _, n := range []int{-1, math.MinInt} {
		ordered(t, n, nil, nil, nil, api.ErrArg)
	}
	for _, n := range []int{api.MaxSeries + 1, math.MaxInt} {
		ordered(t, n, nil, nil, nil, api.ErrMany)
	}
	ordered(t, api.MaxSeries+1, nil, make([]int, api.MaxSeries+1), nil, api.ErrMany)
	ordered(t, 0, nil, nil, nil, nil)
	ordered(t, 0, [][2]int{}, []int{}, nil, nil)
	ordered(t, 1, nil, ints(-7), ints(0), nil)
	ordered(t, api.MaxSeries, nil, make([]int, api.MaxSeries), upTo(api.MaxSeries), nil)
}

// TestOrderErrorsInOrder is P23.2: each error alone and with all that come behind it.
func TestOrderErrorsInOrder(t *testing.T) {
	edges := [][][2]int{nil, pairs(0, 0), pairs(0, 9999, 0, 0), pairs(0, 0, -1, 0)} // right, a ring, lost things beside a ring
	count := []int{0, 1, 2, 3, 4095, 4096, 4097}
	for _, n := range []int{math.MinInt, -1, 0, 1, 2, 4096, 4097, math.MaxInt} {
		for _, of := range count {
			for at, l := range edges {
				priority := make([]int, of)
				switch {
				case n < 0:
					ordered(t, n, l, priority, nil, api.ErrArg)
				case n > 4096:
					ordered(t, n, l, priority, nil, api.ErrMany)
				case of < n:
					ordered(t, n, l, priority, nil, api.ErrShort)
				case of > n:
					ordered(t, n, l, priority, nil, api.ErrLong)
				case at > 0 && n == 0:
					ordered(t, n, l, priority, nil, lostAt(0))
				case at > 1:
					ordered(t, n, l, priority, nil, lostAt(at-2))
				case at == 1:
					ordered(t, n, l, priority, nil, api.ErrLoop)
				default:
					ordered(t, n, l, priority, upTo(n), nil)
				}
			}
		}
	}
}

// TestOrderOfLostThings is P23.2: the place of the first edge that doesn't name things, also beside a ring.
func TestOrderOfLostThings(t *testing.T) {
	for _, lost := range []int{-1, math.MinInt, 3, 4, math.MaxInt} {
		for _, edge := range [][2]int{{lost, 0}, {0, lost}, {lost, lost}, {2, lost}, {lost, 2}} {
			for at := range 4 {
				l := slices.Insert(pairs(0, 1, 1, 0, 2, 2), at, edge)
				ordered(t, 3, append(l, pairs(3, 3, -1, -1)...), ints(1, 2, 3), nil, lostAt(at))
			}
		}
	}
}

// TestOrderByHand is P23.2 of priorities and edges of all kinds.
func TestOrderByHand(t *testing.T) {
	most, least := math.MaxInt, math.MinInt
	// Priorities alone: the greatest first, of equals the least number.
	ordered(t, 4, nil, ints(7, 7, 7, 7), ints(0, 1, 2, 3), nil)
	ordered(t, 4, nil, ints(1, 2, 3, 4), ints(3, 2, 1, 0), nil)
	ordered(t, 4, nil, ints(-1, -2, 0, -1), ints(2, 0, 3, 1), nil)
	ordered(t, 5, nil, ints(least, most, 0, most, least), ints(1, 3, 2, 0, 4), nil)
	ordered(t, 3, nil, ints(least+1, least, most), ints(2, 0, 1), nil)
	// Edges ahead of priorities.
	ordered(t, 2, pairs(1, 0), ints(most, least), ints(1, 0), nil)
	ordered(t, 2, pairs(1, 0, 1, 0, 1, 0), ints(5, 5), ints(1, 0), nil)
	ordered(t, 3, pairs(2, 1, 1, 0), ints(3, 2, 1), ints(2, 1, 0), nil)
	ordered(t, 3, pairs(2, 0, 1, 0), ints(3, 2, 1), ints(1, 2, 0), nil)
	ordered(t, 3, pairs(2, 0, 2, 0, 1, 0), ints(3, 1, 2), ints(2, 1, 0), nil)
	// What becomes free comes at once, if it is the most urgent, and else where it belongs.
	ordered(t, 4, pairs(1, 0), ints(9, 1, 5, 0), ints(2, 1, 0, 3), nil)
	ordered(t, 4, pairs(3, 0), ints(4, 3, 2, 9), ints(3, 0, 1, 2), nil)
	ordered(t, 4, pairs(3, 0), ints(1, 3, 2, 9), ints(3, 1, 2, 0), nil)
	ordered(t, 5, pairs(0, 1, 0, 2, 4, 3), ints(5, 1, 7, 9, 2), ints(0, 2, 4, 3, 1), nil)
	ordered(t, 6, pairs(5, 0, 0, 1, 1, 2), ints(9, 8, 7, 1, 1, 1), ints(3, 4, 5, 0, 1, 2), nil)
	// An urgent thing doesn't pull those ahead of it forward.
	ordered(t, 3, pairs(2, 0), ints(9, 5, 1), ints(1, 2, 0), nil)
	// Rings: one thing alone, two, all, and beside things that could stand.
	ordered(t, 1, pairs(0, 0), ints(0), nil, api.ErrLoop)
	ordered(t, 2, pairs(1, 1), ints(0, 0), nil, api.ErrLoop)
	ordered(t, 3, pairs(0, 1, 1, 2, 2, 0), ints(0, 0, 0), nil, api.ErrLoop)
	ordered(t, 4, pairs(0, 1, 2, 3, 3, 2), ints(0, 0, 0, 0), nil, api.ErrLoop)
}

// eachWeb goes through all sets of edges between n things.
func eachWeb(n int, visit func(l [][2]int)) {
	for set := range 1 << (n * n) {
		var l [][2]int
		for e := range n * n {
			if set>>e&1 == 1 {
				l = append(l, [2]int{e / n, e % n})
			}
		}
		visit(l)
	}
}

// TestOrderOfAllWebs is P23.2 of all sets of edges between up to three things with all priorities of three, and of all between four with thrown ones.
func TestOrderOfAllWebs(t *testing.T) {
	for n := range 4 {
		eachWeb(n, func(l [][2]int) {
			for x := range 27 {
				priority := ints(x%3, x/3%3, x/9)[:n]
				want, fails := orderAgain(n, l, priority)
				ordered(t, n, l, priority, want, fails)
			}
		})
	}
	d := proof.Dice(2303)
	right := 0
	eachWeb(4, func(l [][2]int) {
		priority := ints(d.Below(4), d.Below(4), d.Below(4), d.Below(4))
		want, fails := orderAgain(4, l, priority)
		if fails == nil {
			right++
		}
		ordered(t, 4, l, priority, want, fails)
	})
	if right != 543 { // so many webs of four things have no ring
		t.Errorf("%d webs of four things have an order", right)
	}
}

// throwEdges throws edges, mostly such that all lead up in some order of the things.
func throwEdges(d *proof.Dice, n, count int) [][2]int {
	rank := upTo(n)
	proof.Shuffle(d, rank)
	l := throwPairs(d, n, count)
	for at, e := range l {
		if rank[e[0]] > rank[e[1]] && d.Below(4*len(l)) > 0 {
			l[at] = [2]int{e[1], e[0]}
		}
	}
	own := func(e [2]int) bool { return e[0] == e[1] && d.Below(4*len(l)) > 0 }
	return slices.DeleteFunc(l, own)
}

// throwPriorities throws so many priorities, of which some are the same.
func throwPriorities(d *proof.Dice, n int) []int {
	var l []int
	for range n {
		l = append(l, proof.Of(d, 0, d.Below(3), d.Below(n)-n/2, d.Number()))
	}
	return l
}

// TestThrownOrders is P23.2 of up to nine things against the second reckoning, of which some have a ring, lost things, too few or too many priorities.
func TestThrownOrders(t *testing.T) {
	d := proof.Dice(2304)
	seen := map[api.Errno]int{}
	for range 30000 {
		n := d.Below(10)
		l, priority := throwEdges(&d, n, d.Below(3*n+1)), throwPriorities(&d, n+max(0, d.Below(20)-17))
		if n > 0 && d.Below(20) == 0 {
			priority = priority[:n-1]
		}
		if d.Below(10) == 0 {
			l = append(l, [2]int{d.Number(), d.Number()})
			proof.Shuffle(&d, l)
		}
		want, fails := orderAgain(n, l, priority)
		seen[number(fails)]++
		ordered(t, n, l, priority, want, fails)
	}
	for _, no := range []api.Errno{api.OK, api.ErrShort, api.ErrLong, api.ErrLost, api.ErrLoop} {
		if seen[no] < 500 {
			t.Errorf("%v only %d times", no, seen[no])
		}
	}
}

// TestLongOrders is P23.2 of the most things: in a chain with any priorities, and with priorities alone.
func TestLongOrders(t *testing.T) {
	const n = api.MaxSeries
	d := proof.Dice(2305)
	back := upTo(n)
	slices.Reverse(back)
	for _, priority := range [][]int{upTo(n), back, make([]int, n), throwPriorities(&d, n)} {
		l := chain(n)
		proof.Shuffle(&d, l)
		ordered(t, n, l, priority, upTo(n), nil)
		ordered(t, n, turned(l), priority, back, nil)
		ordered(t, n, append(l, [2]int{n - 1, 0}), priority, nil, api.ErrLoop)
		free := upTo(n)
		slices.SortFunc(free, func(a, b int) int {
			if priority[a] > priority[b] || priority[a] == priority[b] && a < b {
				return -1
			}
			return 1
		})
		ordered(t, n, nil, priority, free, nil)
	}
}
