package match_test

import (
	"slices"
	"testing"

	"custody/api"
	"custody/match"
	"custody/proof"
)

// agree does calls with a book and with the second reckoning, and holds each answer, and what is seen behind it, against each other.
func agree(t *testing.T, bics []string, tolerance int64, calls []call) {
	t.Helper()
	b, p := match.New(bics, tolerance), &paper{bics: bics, tolerance: tolerance}
	for n, c := range calls {
		if got, want := c.ask(b), c.ask(p); got != want {
			t.Fatalf("%q, %d: %sthe last is %s, not %s", bics, tolerance, told(calls[:n+1]), got, want)
		}
		if got, want := seen(b, len(bics), len(p.rows)), seen(p, len(bics), len(p.rows)); got != want {
			t.Fatalf("%q, %d: %sseen is\n%s\nnot\n%s", bics, tolerance, told(calls[:n+1]), got, want)
		}
	}
}

// agreeAtEnd holds the last answer and the lists then against the second reckoning: all that was ahead of it is a shorter row of calls.
func agreeAtEnd(t *testing.T, calls []call) {
	t.Helper()
	b, p := match.New(bics, 100), &paper{bics: bics, tolerance: 100}
	for n, c := range calls {
		if got, want := c.ask(b), c.ask(p); n == len(calls)-1 && got != want {
			t.Fatalf("%sthe last is %s, not %s", told(calls), got, want)
		}
	}
	if !slices.Equal(b.Open(), p.Open()) || !slices.Equal(b.Pairs(), p.Pairs()) || !slices.Equal(b.Alleged(1), p.Alleged(1)) {
		t.Fatalf("%sOpen is %v, not %v; Pairs are %v, not %v; alleged to 1 are %v, not %v", told(calls), b.Open(), p.Open(), b.Pairs(), p.Pairs(), b.Alleged(1), p.Alleged(1))
	}
}

// eachRow goes through all rows of so many of these calls, behind those of the start.
func eachRow(start, of []call, count int, visit func(calls []call)) {
	visit(start)
	if count == 0 {
		return
	}
	for _, c := range of {
		eachRow(append(slices.Clone(start), c), of, count-1, visit)
	}
}

// few are calls with four sides, of which each deliverer's fits with each receiver's but D1 with R2.
func few() []call {
	var l []call
	for _, s := range []api.Side{d("D1", amount(5000)), d("D2", amount(5150)), r("R1", amount(5100)), r("R2", amount(5200))} {
		l = append(l, add(s), cancel(s.Party, s.Notice.Ref))
	}
	return l
}

// TestAllShortRows is P22.3 to P22.5: all rows of five calls with these sides.
func TestAllShortRows(t *testing.T) {
	eachRow(nil, few(), 5, func(calls []call) { agreeAtEnd(t, calls) })
}

// TestAllRowsBehindPairs is P22.3 to P22.5: all rows of five calls behind a pair and an open side.
func TestAllRowsBehindPairs(t *testing.T) {
	l := few()
	eachRow([]call{l[4], l[2], l[0]}, l, 4, func(calls []call) { agreeAtEnd(t, calls) })
	eachRow([]call{l[0], l[6], l[2]}, l, 4, func(calls []call) { agreeAtEnd(t, calls) })
	eachRow([]call{l[0], l[4], l[1], l[5]}, l, 4, func(calls []call) { agreeAtEnd(t, calls) })
}

// throwSide throws a side, mostly one that is taken, of one trade or one that is like it.
func throwSide(dice *proof.Dice, bics []string, refs int) api.Side {
	s := proof.Of(dice, d, r)(dice.Text(1, refSigns[:refs]))
	s.Party, s.Notice.Agent = dice.Below(max(len(bics), 1)), proof.Of(dice, slices.Concat(bics, []string{"DEUTDEFF"})...)
	s.Notice.Amount = proof.Of(dice, 5000, 5000+int64(dice.Below(300)), 1+int64(dice.Below(5)), api.MaxAmount)
	for range dice.Below(3) {
		s.Notice.Links = append(s.Notice.Links, api.Link{Kind: 1 + dice.Below(3), Ref: "L" + dice.Text(2, refSigns)})
	}
	if dice.Below(3) == 0 {
		free(&s)
	}
	if dice.Below(3) == 0 {
		proof.Of(dice, append(lookedAt(), turn{"a cancellation", cancellation}, turn{"Amount", amount(-1)})...).do(&s)
	}
	return s
}

const refSigns = "ABCDEFGHIJKLMNOPQRSTUVWXYZ0123456789"

// throwCalls throws a row of calls, of ten of which so many are cancellations.
func throwCalls(d *proof.Dice, bics []string, count, cancels int) []call {
	refs, parties := proof.Of(d, 5, 36, 36), len(bics)
	var l []call
	for range count {
		if d.Below(10) < cancels {
			l = append(l, cancel(mostly(d, d.Below(max(parties, 1)), -1, parties), mostly(d, d.Text(1, refSigns[:refs]), "", "a", "LL")))
		} else {
			l = append(l, add(throwSide(d, bics, refs)))
		}
	}
	return l
}

// TestRowsOfCalls is P22.1 to P22.5: rows of calls in any turns, against the second reckoning.
func TestRowsOfCalls(t *testing.T) {
	d := proof.Dice(2)
	for range 300 {
		bics := throwBics(&d)
		tolerance := proof.Of(&d, 0, 100, 299, -1, api.MaxAmount, throwTolerance(&d))
		agree(t, bics, tolerance, throwCalls(&d, bics, 40, d.Below(8)))
	}
}

// TestRowsOfTwoParties is the same of two parties that tell of few trades: much of it is matched.
func TestRowsOfTwoParties(t *testing.T) {
	d := proof.Dice(3)
	made := 0
	for range 200 {
		calls := throwCalls(&d, bics, 50, d.Below(6))
		agree(t, bics, 100, calls)
		p := &paper{bics: bics, tolerance: 100}
		for _, c := range calls {
			c.ask(p)
		}
		made += len(p.pairs)
	}
	if made < 400 {
		t.Errorf("only %d pairs were made", made)
	}
}
