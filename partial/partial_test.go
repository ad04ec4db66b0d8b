package partial_test

import (
	"math"
	"testing"

	"custody/api"
	"custody/partial"
	"custody/proof"
)

const (
	most  = math.MaxInt64
	least = math.MinInt64
)

// amounts are numbers in a list.
func amounts(l ...int64) []int64 { return l }

// belowNothing are numbers that are no amounts.
func belowNothing() []int64 { return amounts(-1, -2, -100, least+1, least) }

// part holds what Part answers against what is wanted; beside an error that is 0.
func part(t *testing.T, left, lot, atLeast, have, want int64, no api.Errno) {
	t.Helper()
	if n, err := partial.Part(left, lot, atLeast, have); n != want || !proof.Tells(err, no) {
		t.Errorf("Part(%d, %d, %d, %d) is %d, %v; want %d, %v", left, lot, atLeast, have, n, err, want, no)
	}
}

// agreesOnPart holds Part against the second reckoning.
func agreesOnPart(t *testing.T, left, lot, atLeast, have int64) {
	t.Helper()
	want, no := partAgain(left, lot, atLeast, have)
	part(t, left, lot, atLeast, have, want, no)
}

// P26.1

func TestPart(t *testing.T) {
	for _, x := range []struct{ left, lot, least, have, want int64 }{
		// whole lots
		{100, 10, 0, 10, 10},
		{100, 10, 0, 9, 0},
		{100, 10, 0, 11, 10},
		{100, 10, 0, 19, 10},
		{100, 10, 0, 20, 20},
		{100, 1, 0, 99, 99},
		{100, 1, 0, 1, 1},
		{100, 99, 0, 99, 99},
		{100, 99, 0, 98, 0},
		// all that is left
		{100, 10, 0, 100, 100},
		{100, 10, 0, 99, 90},
		{100, 10, 0, 101, 100},
		{100, 10, 0, most, 100},
		{100, 1, 0, 100, 100},
		{1, 1, 0, 1, 1},
		// it need be no whole number of lots
		{105, 10, 0, 105, 105},
		{105, 10, 0, 104, 100},
		{105, 10, 0, 100, 100},
		{5, 10, 0, 5, 5},
		{5, 10, 0, 4, 0},
		{5, 10, 0, 7, 5},
		{5, most, 0, 5, 5},
		{5, most, 0, 4, 0},
		// nor at least the least quantity
		{5, 10, 20, 5, 5},
		{5, 10, 20, 6, 5},
		{5, 10, 20, 4, 0},
		{20, 10, 20, 20, 20},
		{20, 10, 20, 19, 0},
		{20, 10, 21, 20, 20},
		{20, 10, 21, 19, 0},
		{5, 1, most, 5, 5},
		{5, 1, most, 4, 0},
		// the least quantity of what is less
		{100, 10, 30, 29, 0},
		{100, 10, 30, 30, 30},
		{100, 10, 30, 39, 30},
		{100, 10, 31, 39, 0},
		{100, 10, 31, 40, 40},
		{100, 10, 29, 30, 30},
		{100, 10, 29, 29, 0}, // it isn't rounded up to the least quantity
		{100, 10, 99, 99, 0},
		{100, 10, 90, 99, 90},
		{100, 10, 91, 99, 0},
		{100, 10, 100, 99, 0},
		{100, 10, 101, 99, 0},
		{100, 10, 1, 9, 0},
		{100, 10, 10, 10, 10},
		{100, 10, 11, 10, 0},
		{100, 1, 7, 6, 0},
		{100, 1, 7, 7, 7},
		// nothing is left, or there
		{0, 1, 0, 0, 0},
		{0, 10, 0, 100, 0},
		{0, 10, 5, 100, 0},
		{0, most, most, most, 0},
		{100, 10, 0, 0, 0},
		{100, 1, 0, 0, 0},
		{100, 1, 1, 0, 0},
		{1, 1, 0, 0, 0},
		// at the end
		{most, 1, 0, most, most},
		{most, 1, 0, most - 1, most - 1},
		{most, 2, 0, most - 1, most - 1},
		{most, 2, 0, most - 2, most - 3},
		{most, most, most, most, most},
		{most, most, 0, most - 1, 0},
		{most - 1, most, most, most, most - 1},
		{most, most - 1, 0, most - 1, most - 1},
		{most, most - 1, most - 1, most - 1, most - 1},
		{most, most - 1, most, most - 1, 0},
		{most, most - 1, 0, most - 2, 0},
		{most, 1 << 62, 0, most - 1, 1 << 62},
		{most, 1 << 62, 1<<62 + 1, most - 1, 0},
		{most, 1, most, most - 1, 0},
		{most, 10, 0, 1<<62 + 3, 1<<62 - 4},
		{1, 1, 0, most, 1},
	} {
		part(t, x.left, x.lot, x.least, x.have, x.want, api.OK)
	}
}

// TestWrongPart: each of the four is enough, whatever the others are.
func TestWrongPart(t *testing.T) {
	right := amounts(0, 1, 2, 100, most)
	for _, a := range right {
		for _, b := range right[1:] {
			for _, c := range right {
				for _, wrong := range belowNothing() {
					part(t, wrong, b, a, c, 0, api.ErrArg)
					part(t, a, wrong, c, b, 0, api.ErrArg)
					part(t, a, b, wrong, c, 0, api.ErrArg)
					part(t, a, b, c, wrong, 0, api.ErrArg)
					part(t, wrong, wrong, wrong, wrong, 0, api.ErrArg)
				}
				part(t, a, 0, b, c, 0, api.ErrArg)
			}
		}
	}
	part(t, 0, 0, 0, 0, 0, api.ErrArg)
	part(t, 5, 0, 0, 5, 0, api.ErrArg)
}

// TestPartAtEnds: each argument below 0, at 0, and at its end.
func TestPartAtEnds(t *testing.T) {
	ends := amounts(least, -1, 0, 1, 2, 1<<62, most-1, most)
	for _, left := range ends {
		for _, lot := range ends {
			for _, atLeast := range ends {
				for _, have := range ends {
					agreesOnPart(t, left, lot, atLeast, have)
				}
			}
		}
	}
}

// TestPartNearby: left, lot, the least quantity and what is there are one below, at and one above each other.
func TestPartNearby(t *testing.T) {
	for _, n := range amounts(1, 2, 3, 10, 1<<31, 1<<32, 1<<62, most-1) {
		for _, half := range amounts(n, n/2, n/3) {
			near := amounts(half-1, half, half+1, n-1, n, n+1)
			for _, left := range near {
				for _, lot := range near {
					for _, atLeast := range near {
						for _, have := range near {
							agreesOnPart(t, left, lot, atLeast, have)
						}
					}
				}
			}
		}
	}
}

// TestPartOfLittleNumbers tries all quantities, of every four little numbers.
func TestPartOfLittleNumbers(t *testing.T) {
	for left := range int64(13) {
		for lot := int64(1); lot < 15; lot++ {
			for atLeast := range int64(15) {
				want := int64(0)
				for have := range int64(15) {
					if mayBePart(have, left, lot, atLeast) {
						want = have
					}
					part(t, left, lot, atLeast, have, want, api.OK)
					if again, no := partAgain(left, lot, atLeast, have); again != want || no != api.OK {
						t.Errorf("the second reckoning's part of %d, %d, %d, %d is %d, %v", left, lot, atLeast, have, again, no)
					}
				}
			}
		}
	}
}

// TestThrownParts holds Part of any numbers against the second reckoning.
func TestThrownParts(t *testing.T) {
	d := proof.Dice(2601)
	var wrong, none, some, all int
	for range 60000 {
		left := proof.Of(&d, throwAmount(&d), throwAmount(&d), int64(d.Number()))
		lot := proof.Of(&d, 1+throwUpTo(&d, 20), 1+throwUpTo(&d, 20), throwUpTo(&d, left), throwAmount(&d), int64(d.Number()))
		atLeast := proof.Of(&d, 0, throwUpTo(&d, left), throwUpTo(&d, left), throwAmount(&d), int64(d.Number()))
		have := proof.Of(&d, throwUpTo(&d, left), throwUpTo(&d, left), throwAmount(&d), int64(d.Number()))
		agreesOnPart(t, left, lot, atLeast, have)
		switch n, no := partAgain(left, lot, atLeast, have); {
		case no != api.OK:
			wrong++
		case n == 0:
			none++
		case n == left:
			all++
		default:
			some++
		}
	}
	if wrong < 3000 || none < 3000 || some < 3000 || all < 3000 {
		t.Errorf("%d were wrong, %d had no part, %d one, %d all", wrong, none, some, all)
	}
}
