package match_test

import (
	"math"
	"testing"

	"custody/api"
	"custody/match"
)

// TestCancelOpen is P22.4: an open side is cancelled, and nothing is matched with it any more.
func TestCancelOpen(t *testing.T) {
	x := newTested(t)
	x.add(0, -1, d("D1"))
	x.add(1, -1, d("D2"))
	x.cancel(true, 0, "D1")
	x.keeps(api.ErrFinal, 0, "D1")
	x.open(1)
	x.pairs()
	x.alleged(1, 1)
	x.side(0, d("D1"))
	x.add(2, 0, r("R1"))
	x.pairs(pair(1, 2, 5000))
	x.add(3, -1, r("R2"))
	x.open(3)
	x.keeps(api.ErrFinal, 0, "D1")
}

// TestCancelMatched is P22.4: a pair is given up when both have asked, in either order; asking twice is as asking once.
func TestCancelMatched(t *testing.T) {
	for _, first := range []int{0, 1} {
		x := newTested(t)
		refs := []string{"D1", "R1"}
		x.add(0, -1, r("R1"))
		x.add(1, 0, d("D1"))
		was := x.seen()
		for range 3 {
			x.cancel(false, first, refs[first])
			x.stays(was)
		}
		x.cancel(true, 1-first, refs[1-first])
		x.open()
		x.pairs()
		x.alleged(0)
		x.alleged(1)
		for range 2 {
			x.keeps(api.ErrFinal, 0, "D1")
			x.keeps(api.ErrFinal, 1, "R1")
		}
		x.side(0, r("R1"))
		x.side(1, d("D1"))
		x.add(2, -1, d("D2")) // neither is open again
		x.add(3, 1, r("R2"))
		x.pairs(pair(2, 3, 5000))
	}
}

// TestCancelOneOfPairs is P22.4: what is asked of one pair changes no other one.
func TestCancelOneOfPairs(t *testing.T) {
	x := newTested(t)
	x.add(0, -1, d("D1"))
	x.add(1, 0, r("R1"))
	x.add(2, -1, d("D2"))
	x.add(3, 1, r("R2"))
	x.add(4, -1, d("D3"))
	x.add(5, 2, r("R3"))
	x.cancel(false, 0, "D1")
	x.cancel(false, 1, "R2")
	x.cancel(false, 1, "R3")
	x.pairs(pair(0, 1, 5000), pair(2, 3, 5000), pair(4, 5, 5000))
	x.cancel(true, 0, "D2")
	x.pairs(pair(0, 1, 5000), pair(4, 5, 5000))
	x.keeps(api.ErrFinal, 1, "R2")
	x.cancel(true, 1, "R1")
	x.pairs(pair(4, 5, 5000))
	x.cancel(false, 1, "R3")
	x.cancel(true, 0, "D3")
	x.pairs()
	x.open()
}

// TestCancelOfNoSide is P22.4: ErrLost, where there is no side of that party and that Ref.
func TestCancelOfNoSide(t *testing.T) {
	x := newTested(t)
	x.add(0, -1, d("D1"))
	x.add(1, -1, d("D2", qty(77)))
	x.add(2, 0, r("R1"))
	x.cancel(true, 0, "D2")
	for _, ref := range []string{"", "D", "D10", "d1", "R1", "R2", "D1 ", "\x00"} {
		x.keeps(api.ErrLost, 0, ref)
	}
	for _, party := range []int{-1, 1, 2, math.MinInt, math.MaxInt} {
		x.keeps(api.ErrLost, party, "D1")
		x.keeps(api.ErrLost, party, "D2")
	}
	x.refuses(api.ErrLost, d("D7", from(2)))
	x.keeps(api.ErrLost, 2, "D7")
}

// TestSameRefOfTwoParties is P22.4: a side is known by its party and its Ref together.
func TestSameRefOfTwoParties(t *testing.T) {
	x := newTested(t)
	x.add(0, -1, d("A"))
	x.add(1, 0, r("A"))
	x.add(2, -1, r("B"))
	x.add(3, -1, r("B", from(0), agent("BNPAFRPP")))
	x.cancel(false, 0, "A")
	x.cancel(true, 0, "B")
	x.open(2)
	x.cancel(true, 1, "A")
	x.open(2)
	x.cancel(true, 1, "B")
	x.open()
}

// TestPartyWithItself: both sides of a pair may be one party's.
func TestPartyWithItself(t *testing.T) {
	x := newTested(t)
	own := agent("DEUTDEFF")
	x.add(0, -1, d("D1", own))
	x.alleged(0, 0)
	x.alleged(1)
	x.add(1, 0, r("R1", own, from(0)))
	x.cancel(false, 0, "D1")
	x.cancel(true, 0, "R1")
	x.pairs()
}

// TestSide is P22.5: a side by its number is as it was put in, whatever has become of it.
func TestSide(t *testing.T) {
	x := newTested(t)
	sides := []api.Side{d("D1", linked), r("R1", linked), d("D2", free), r("R2", qty(3), agent("DEUTDEFFXXX"))}
	holds := func() {
		t.Helper()
		for n, s := range sides {
			x.side(n, s)
		}
		x.noSide(-1, 4, 5, math.MinInt, math.MaxInt)
	}
	for n, s := range sides {
		x.noSide(n)
		x.add(n, []int{-1, 0, -1, -1}[n], s)
		x.side(n, s)
	}
	holds()
	x.cancel(true, 0, "D2")
	holds()
	x.cancel(false, 0, "D1")
	holds()
	x.cancel(true, 1, "R1")
	holds()
}

// TestAlleged is P22.5: the open sides whose Agent is the party's BIC, in whatever way both are written.
func TestAlleged(t *testing.T) {
	few := []string{"DEUTDEFF", "BNPAFRPPXXX", "DEUTDEFFXXX", "DEUTDEFF500", "", "deutdeff", "DEUTDEFFXX"}
	x := tested{t, match.New(few, tolerance)}
	for n, bic := range []string{"DEUTDEFF", "DEUTDEFFXXX", "DEUTDEFF500", "BNPAFRPP", "BNPAFRPPXXX", "DEUTDEFF501", "DEUTDEFF"} {
		x.add(n, -1, d("D"+string(rune('0'+n)), agent(bic), from(n%3)))
	}
	x.alleged(0, 0, 1, 6)
	x.alleged(1, 3, 4)
	x.alleged(2, 0, 1, 6)
	x.alleged(3, 2)
	for _, party := range []int{4, 5, 6, 7, -1, math.MinInt, math.MaxInt} {
		x.alleged(party)
	}
	x.cancel(true, 1, "D1")
	x.alleged(0, 0, 6)
	x.add(7, 0, r("R1", agent("DEUTDEFFXXX"), from(1))) // with 3, which party 0 has sent
	x.open(0, 2, 4, 5, 6)
	x.alleged(1, 4)
	x.alleged(0, 0, 6)
}
