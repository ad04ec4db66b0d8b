package links_test

import (
	"math"
	"slices"
	"testing"

	"custody/api"
	"custody/proof"
)

// TestNoRing is P23.3 of edges without one.
func TestNoRing(t *testing.T) {
	for _, n := range []int{math.MinInt, -1, 0, 1, 2, 4, api.MaxSeries, math.MaxInt} {
		rings(t, n, nil)
		rings(t, n, [][2]int{})
	}
	rings(t, 2, pairs(0, 1))
	rings(t, 2, pairs(1, 0, 1, 0))
	rings(t, 4, pairs(0, 1, 0, 2, 1, 3, 2, 3, 0, 3))
	rings(t, api.MaxSeries, chain(api.MaxSeries))
}

// TestRingOfNamedThings is P23.3: edges that don't name things are passed over; all are, if n is below 1.
func TestRingOfNamedThings(t *testing.T) {
	for _, n := range []int{math.MinInt, -1, 0} {
		rings(t, n, pairs(0, 0, -1, -1, n, n, 0, 1, 1, 0))
	}
	for _, lost := range []int{-1, math.MinInt, 3, math.MaxInt} {
		rings(t, 3, pairs(lost, lost))
		rings(t, 3, pairs(0, lost, lost, 0))
		rings(t, 3, pairs(0, 1, 1, lost, lost, 0))
		rings(t, 3, pairs(lost, 0, 0, lost, 2, 1, lost, lost, 1, 2, 0, 1), 1, 2)
	}
	rings(t, 1, pairs(0, 0), 0)
	rings(t, 1, pairs(1, 1))
	rings(t, 2, pairs(1, 1), 1)
}

// TestRingOfAnyNumbers is P23.3 of more things than other calls take: there is no bound.
func TestRingOfAnyNumbers(t *testing.T) {
	most := math.MaxInt
	rings(t, api.MaxSeries+1, pairs(4096, 4096), 4096)
	rings(t, most, pairs(most-1, most-1, most, most), most-1)
	rings(t, most, pairs(most-1, 7, 7, 1<<40, 1<<40, most-1), 7, 1<<40, most-1)
	rings(t, most, pairs(most, 7, 7, most))
	rings(t, most-1, pairs(most-1, 7, 7, most-1, 9, 8, 8, 9), 8, 9)
}

// TestRingByHand is P23.3: the least thing, then the fewest things, then the lesser ones.
func TestRingByHand(t *testing.T) {
	// The least thing that stands in any ring, however long its own ring is.
	rings(t, 3, pairs(2, 2, 1, 1), 1)
	rings(t, 6, pairs(5, 5, 3, 4, 4, 3, 0, 1, 1, 2, 2, 0), 0, 1, 2)
	rings(t, 4, pairs(1, 1, 2, 2, 0, 3, 3, 0), 0, 3)
	// A ring that is reached only from things outside of it, from which others are reached, or both.
	rings(t, 5, pairs(0, 1, 1, 2, 2, 3, 3, 4, 4, 3), 3, 4)
	rings(t, 5, pairs(4, 3, 3, 4, 3, 2, 2, 1, 1, 0), 3, 4)
	rings(t, 6, pairs(5, 4, 4, 5, 4, 0, 0, 1, 1, 2, 2, 3, 3, 2), 2, 3)
	rings(t, 6, pairs(4, 5, 5, 4, 2, 3, 3, 2, 3, 0, 0, 1, 1, 4), 2, 3)
	// The fewest things.
	rings(t, 4, pairs(0, 1, 1, 2, 2, 0, 0, 3, 3, 0), 0, 3)
	rings(t, 4, pairs(0, 1, 1, 2, 2, 0, 0, 0), 0)
	rings(t, 5, pairs(0, 1, 1, 0, 0, 0, 1, 1), 0)
	rings(t, 6, pairs(0, 1, 1, 2, 2, 3, 3, 0, 0, 5, 5, 4, 4, 0), 0, 5, 4)
	// The lesser thing at the first place that differs, whatever comes behind it.
	rings(t, 3, pairs(0, 2, 2, 0, 0, 1, 1, 0), 0, 1)
	rings(t, 5, pairs(0, 2, 2, 1, 1, 0, 0, 3, 3, 4, 4, 0), 0, 2, 1)
	rings(t, 5, pairs(0, 1, 1, 4, 4, 0, 0, 2, 2, 3, 3, 0), 0, 1, 4)
	rings(t, 5, pairs(0, 1, 1, 4, 4, 0, 1, 3, 3, 0), 0, 1, 3)
	rings(t, 5, pairs(0, 1, 1, 2, 0, 3, 3, 4, 4, 0), 0, 3, 4)
	// Edges twice, in any order.
	rings(t, 3, pairs(2, 1, 2, 1, 1, 2, 1, 2), 1, 2)
}

// TestAllWebs is P23.3 of all sets of edges between up to four things, against all rows of things that are tried.
func TestAllWebs(t *testing.T) {
	for n := range 5 {
		eachWeb(n, func(l [][2]int) {
			want, _ := ringAgain(n, l)
			rings(t, n, l, want...)
			slices.Reverse(l)
			rings(t, n, l, want...)
		})
	}
}

// TestThrownRings is P23.3 of up to eight things against all rows of things that are tried; edges that don't name things stand between the others.
func TestThrownRings(t *testing.T) {
	d := proof.Dice(2306)
	long, none := 0, 0
	for range 30000 {
		n := 1 + d.Below(8)
		l := throwPairs(&d, n, d.Below(2*n+1))
		for range d.Below(3) {
			l = append(l, [2]int{d.Number(), d.Number()})
		}
		proof.Shuffle(&d, l)
		want, _ := ringAgain(n, l)
		switch {
		case len(want) == 0:
			none++
		case len(want) > 2:
			long++
		}
		rings(t, n, l, want...)
	}
	if long < 1000 || none < 1000 {
		t.Errorf("%d rings were longer than two, %d webs had none", long, none)
	}
}

// TestRingsOfThrownNumbers is P23.3: numbers that lie far apart have the rings of those that stand in their places.
func TestRingsOfThrownNumbers(t *testing.T) {
	d := proof.Dice(2307)
	for range 5000 {
		n := 1 + d.Below(8)
		l := throwPairs(&d, n, d.Below(2*n+1))
		numbers := upTo(n)
		for x := range numbers {
			numbers[x] = int(d.Next() >> 1)
		}
		slices.Sort(numbers)
		far := slices.Clone(l)
		for at, e := range l {
			far[at] = [2]int{numbers[e[0]], numbers[e[1]]}
		}
		want, _ := ringAgain(n, l)
		for at, x := range want {
			want[at] = numbers[x]
		}
		rings(t, numbers[n-1]+1, far, want...)
	}
}

// TestLongRings is P23.3 of very many things: one long ring, a long way to a ring and from it, a long way between two.
func TestLongRings(t *testing.T) {
	const n = 300000
	all := chain(n)
	rings(t, n, append(slices.Clone(all), [2]int{n - 1, 0}), upTo(n)...)
	rings(t, n, append(slices.Clone(all), [2]int{n - 1, n - 2}), n-2, n-1)
	rings(t, n, append(slices.Clone(all), [2]int{1, 0}), 0, 1)
	rings(t, n, append(turned(all), [2]int{n - 2, n - 1}), n-2, n-1)
	// The way between the two rings has the least numbers.
	two := append(slices.Clone(all), pairs(n, n+1, n+1, n, n+1, 0, n-1, n+2, n+2, n+3, n+3, n+2)...)
	rings(t, n+4, two, n, n+1)
	rings(t, n+4, two[:len(two)-1], n, n+1)
	rings(t, n+4, slices.Delete(two, n-1, n), n+2, n+3)
	rings(t, n, all)
}

// TestManyEdges is P23.3 of a web in which there is very much to choose from.
func TestManyEdges(t *testing.T) {
	const n = 600
	var l [][2]int
	for a := range n {
		for b := range n {
			if b > a || b == 0 && a == n-1 || b == a-1 && a > n/2 {
				l = append(l, [2]int{a, b})
			}
		}
	}
	rings(t, n, l, 0, n-1)
	l = slices.DeleteFunc(l, func(e [2]int) bool { return e == [2]int{0, n - 1} })
	rings(t, n, l, 0, 1, n-1)
	l = slices.DeleteFunc(l, func(e [2]int) bool { return e[1] == 0 })
	rings(t, n, l, n/2, n/2+1)
}
