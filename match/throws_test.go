package match_test

import (
	"testing"

	"custody/api"
	"custody/match"
	"custody/proof"
)

// mostly is the first of these things, and now and then another one.
func mostly[T any](d *proof.Dice, usual T, rare ...T) T {
	if d.Below(6) > 0 {
		return usual
	}
	return proof.Of(d, rare...)
}

// throwBic is a BIC, or what is nearly one.
func throwBic(d *proof.Dice) string {
	return mostly(d, proof.Of(d, "DEUTDEFF", "BNPAFRPP", "DEUTDEFFXXX", "BNPAFRPPXXX", "DEUTDEFF500"), "DEUTDEF", "", "deutdeff", "DEUTDEFFXX")
}

func throwBics(d *proof.Dice) []string {
	var l []string
	for range d.Below(5) {
		l = append(l, throwBic(d))
	}
	return l
}

// throwAmount is one of amounts that lie close to each other, or at the bounds.
func throwAmount(d *proof.Dice) int64 {
	return proof.Of(d, 5000, 5000, 5000+int64(d.Below(300)), 5100, 1, 0, -1, api.MaxAmount, api.MaxAmount-1, -1<<63, int64(d.Next()))
}

func throwTolerance(d *proof.Dice) int64 {
	return proof.Of(d, 0, 1, 100, 200, -1, api.MaxAmount, -1<<63, int64(d.Below(300)), int64(d.Next()))
}

// throwAny throws any side, right or not, of few values.
func throwAny(d *proof.Dice) api.Side {
	s := api.Side{Party: mostly(d, d.Below(3), -1, 3, 4, -1<<63, 1<<63-1)}
	n := &s.Notice
	n.Ref, n.Prev = mostly(d, "A", "B", "", "a"), mostly(d, "", "P")
	n.Cancel, n.Receive, n.Pay = mostly(d, false, true), d.Below(2) == 0, d.Below(4) > 0
	n.Trade, n.Settle, n.Priority = mostly(d, 5, 6, 0, -1<<63), mostly(d, 7, 8, 1, 1<<63-1), mostly(d, 0, 1, -1, 10000)
	n.Qty, n.Account, n.Other = mostly[int64](d, 10, 11, 0, -1<<63), proof.Of(d, "X", "Y"), proof.Of(d, "X", "Y")
	if d.Below(8) == 0 {
		n.Code[d.Below(12)]++
	}
	n.Agent, n.Amount, n.Currency = throwBic(d), throwAmount(d), mostly(d, "EUR", "USD", "")
	for range d.Below(3) {
		n.Links = append(n.Links, api.Link{Kind: d.Below(5), Ref: proof.Of(d, "A", "B", "")})
	}
	return s
}

// throwTwo throws two sides that are not far from fitting.
func throwTwo(d *proof.Dice, bics []string) (api.Side, api.Side) {
	a := throwAny(d)
	b := turned(a, from(d.Below(3)))
	b.Notice.Receive, b.Notice.Account, b.Notice.Other = !a.Notice.Receive, a.Notice.Other, a.Notice.Account
	b.Notice.Amount = proof.Of(d, b.Notice.Amount, throwAmount(d))
	if len(bics) > max(a.Party, b.Party) && a.Party >= 0 {
		a.Notice.Agent, b.Notice.Agent = mostly(d, bics[b.Party], throwBic(d)), mostly(d, bics[a.Party], throwBic(d))
	}
	return a, b
}

// TestFitOfAny is P22.1: any two notices, right or not, against the second reckoning.
func TestFitOfAny(t *testing.T) {
	d := proof.Dice(1)
	against, free := 0, 0
	for n := range 500000 {
		a, b, bics, tolerance := throwAny(&d), throwAny(&d), throwBics(&d), throwTolerance(&d)
		if n%4 > 0 {
			a, b = throwTwo(&d, bics)
		}
		want, fit := reckoned(a, b, bics, tolerance)
		if got, ok := match.Fit(a, b, bics, tolerance); got != want || ok != fit {
			t.Fatalf("Fit(%+v, %+v, %q, %d) is %d, %v, not %d, %v", a, b, bics, tolerance, got, ok, want, fit)
		}
		switch {
		case fit && a.Notice.Pay:
			against++
		case fit:
			free++
		}
	}
	if against < 5000 || free < 5000 {
		t.Errorf("too few fit: %d against payment, %d free of it", against, free)
	}
}
