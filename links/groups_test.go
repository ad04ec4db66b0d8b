package links_test

import (
	"math"
	"slices"
	"testing"

	"custody/api"
	"custody/links"
	"custody/proof"
)

// TestGroupsOfHowMany is P23.1: n below 0, none, one, the most, and more.
func TestGroupsOfHowMany(t *testing.T) {
	for _, l := range [][][2]int{nil, {}, pairs(0, 0), pairs(-1, 0), pairs(0, math.MaxInt)} { // n is looked at first
		for _, n := range []int{-1, -2, math.MinInt} {
			grouped(t, n, l, nil, api.ErrArg)
		}
		for _, n := range []int{api.MaxSeries + 1, api.MaxSeries + 2, math.MaxInt} {
			grouped(t, n, l, nil, api.ErrMany)
		}
	}
	for _, l := range [][][2]int{nil, {}} {
		for _, n := range []int{0, 1, 2, 5, api.MaxSeries} {
			grouped(t, n, l, upTo(n), nil)
		}
	}
	grouped(t, api.MaxSeries, pairs(4095, 4094), append(upTo(4095), 4094), nil)
	grouped(t, api.MaxSeries, pairs(4095, 0), append(upTo(4095), 0), nil)
}

// TestGroupsOfLostThings is P23.1: the first pair with a number below 0, or from n on, in either place.
func TestGroupsOfLostThings(t *testing.T) {
	for _, n := range []int{0, 1, 2, 5, api.MaxSeries} {
		for _, lost := range []int{-1, -2, math.MinInt, n, n + 1, math.MaxInt} {
			for _, pair := range [][2]int{{lost, 0}, {0, lost}, {lost, lost}, {lost, n}, {-1, lost}, {n - 1, lost}, {lost, n - 1}} {
				grouped(t, n, [][2]int{pair}, nil, lostAt(0))
				if n == 0 {
					continue
				}
				for at := range 5 {
					l := slices.Repeat(pairs(0, n-1), 4)
					l = slices.Insert(l, at, pair)
					grouped(t, n, l, nil, lostAt(at))
					grouped(t, n, append(l, pairs(0, 0, -1, n, n, n)...), nil, lostAt(at))
				}
			}
		}
	}
}

// TestSmallGroups is P23.1 by hand.
func TestSmallGroups(t *testing.T) {
	grouped(t, 1, pairs(0, 0), ints(0), nil)
	grouped(t, 3, pairs(1, 1, 2, 2, 1, 1), ints(0, 1, 2), nil)
	grouped(t, 3, pairs(0, 1), ints(0, 0, 2), nil)
	grouped(t, 3, pairs(2, 0), ints(0, 1, 0), nil)
	grouped(t, 3, pairs(2, 1, 2, 1, 1, 2), ints(0, 1, 1), nil)
	grouped(t, 4, pairs(3, 2, 1, 0), ints(0, 0, 2, 2), nil)
	grouped(t, 4, pairs(3, 2, 1, 0, 3, 1), ints(0, 0, 0, 0), nil)
	grouped(t, 6, pairs(5, 4, 4, 3, 1, 2, 5, 2), ints(0, 1, 1, 1, 1, 1), nil)
	grouped(t, 7, pairs(6, 3, 5, 2, 4, 1, 1, 3), ints(0, 1, 2, 1, 1, 2, 1), nil)
}

// TestAllFewPairs is P23.1 of all rows of three pairs among up to four things, those that don't name things too.
func TestAllFewPairs(t *testing.T) {
	for n := range 5 {
		var of [][2]int
		for a := -1; a <= n; a++ {
			for b := -1; b <= n; b++ {
				of = append(of, [2]int{a, b})
			}
		}
		eachRow(nil, of, 3, func(l [][2]int) {
			want, fails := groupsAgain(n, l)
			grouped(t, n, l, want, fails)
		})
	}
}

// eachRow goes through all rows of up to so many of these pairs, behind those of the start.
func eachRow(start, of [][2]int, count int, visit func(l [][2]int)) {
	visit(start)
	if count == 0 {
		return
	}
	for _, x := range of {
		eachRow(append(slices.Clone(start), x), of, count-1, visit)
	}
}

// TestThrownGroups is P23.1 of pairs in any order against the second reckoning, seldom with some that don't name things.
func TestThrownGroups(t *testing.T) {
	d := proof.Dice(2301)
	lost := 0
	for range 20000 {
		n := d.Below(12)
		l := throwPairs(&d, n, d.Below(2*n+1))
		if d.Below(4) == 0 {
			l = append(l, [2]int{d.Number(), d.Number()})
			proof.Shuffle(&d, l)
		}
		want, fails := groupsAgain(n, l)
		if fails != nil {
			lost++
		}
		grouped(t, n, l, want, fails)
	}
	if lost < 1000 {
		t.Errorf("only %d had a pair that doesn't name things", lost)
	}
}

// throwPairs throws so many pairs that name things, if there are any.
func throwPairs(d *proof.Dice, n, count int) [][2]int {
	var l [][2]int
	for n > 0 && len(l) < count {
		l = append(l, [2]int{d.Below(n), d.Below(n)})
	}
	return l
}

// chain ties each thing to the next one.
func chain(n int) [][2]int {
	var l [][2]int
	for x := range n - 1 {
		l = append(l, [2]int{x, x + 1})
	}
	return l
}

// turned are pairs with their two numbers exchanged.
func turned(l [][2]int) [][2]int {
	l = slices.Clone(l)
	for at, x := range l {
		l[at] = [2]int{x[1], x[0]}
	}
	return l
}

// TestLongRows is P23.1: chains of the most things in any order, either way round, are one group; with one pair less they are two.
func TestLongRows(t *testing.T) {
	const n = api.MaxSeries
	d := proof.Dice(2302)
	backward := chain(n)
	slices.Reverse(backward)
	mixed := chain(n)
	proof.Shuffle(&d, mixed)
	doubled := slices.Concat(mixed, chain(n), backward)
	for _, l := range [][][2]int{chain(n), backward, mixed, doubled} {
		for _, l := range [][][2]int{l, turned(l)} {
			grouped(t, n, l, make([]int, n), nil)
			parted := slices.DeleteFunc(slices.Clone(l), func(x [2]int) bool { return x[0]+x[1] == 2*1000+1 })
			want := slices.Concat(make([]int, 1001), slices.Repeat(ints(1001), n-1001))
			grouped(t, n, parted, want, nil)
		}
	}
}

// TestLongRowsEnd: very many pairs, of which each moves the group of one thing to another thing, are gone through in no time.
func TestLongRowsEnd(t *testing.T) {
	const n = api.MaxSeries
	var l [][2]int
	for range 500 {
		for x := n - 1; x > 0; x-- {
			l = append(l, [2]int{n - 1, x - 1})
		}
	}
	if got, err := links.Groups(n, l); err != nil || slices.Max(got) != 0 {
		t.Errorf("the greatest of so many things is in the group %v, %v", slices.Max(got), err)
	}
}
