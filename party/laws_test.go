package party_test

import (
	"fmt"
	"slices"
	"testing"

	"custody/api"
	"custody/guard"
	"custody/party"
	"custody/proof"
)

// seen is all that a directory tells without being changed: of names, of numbers, of who is closed, of the legs between any two accounts.
func seen(t *testing.T, d *party.Directory) []string {
	t.Helper()
	var l []string
	note := func(what string, answer any, err error) { l = append(l, fmt.Sprint(what, answer, numberOf(err))) }
	a, b, c := d.Counts()
	note("counts", []int{a, b, c}, nil)
	for _, s := range someBics() {
		n, err := d.Party(s)
		note("party "+s, n, err)
	}
	for _, s := range someIds() {
		n, err := d.Account(s)
		note("account "+s, n, err)
		if err != nil {
			continue
		}
		for of := range a { // an id that is there is refused, of an open party and of a closed one, by different numbers
			n, err := d.AddAccount(securities(s, of))
			note("closed", n, err)
		}
	}
	for _, s := range someCodes() {
		n, err := d.Asset(s)
		note("asset "+s, n, err)
	}
	for n := range c + 1 {
		s, err := d.Security(n)
		note("security", s, err)
	}
	for n := range b + 1 {
		p, err := d.Owner(n)
		note("owner", p, err)
	}
	for n := range a + 1 {
		p, err := d.CashOf(n)
		note("cash", p, err)
	}
	return append(l, seenLegs(d)...)
}

// seenLegs are the legs between any two accounts, for every agent, free of payment.
func seenLegs(d *party.Directory) []string {
	var l []string
	for _, a := range someIds()[:12] {
		for _, b := range someIds()[:12] {
			n := trade()
			free(&n)
			n.Account, n.Other = a, b
			for _, n.Agent = range []string{deut, bnp, ubs} {
				legs, err := d.Legs(n)
				l = append(l, fmt.Sprint(legs, numberOf(err)))
			}
		}
	}
	return l
}

// wrongCalls are calls that are refused in every directory, each by a number.
func wrongCalls(r rows) []func() (int, error) {
	one := func(err error) (int, error) { return 0, err }
	l := []func() (int, error){
		func() (int, error) { return r.d.AddParty(api.Party{Bic: "X", Name: "N"}) },
		func() (int, error) { return r.d.AddParty(api.Party{Bic: "MIDLGB22"}) },
		func() (int, error) { return r.d.AddAccount(securities("a", 0)) },
		func() (int, error) { return r.d.AddAccount(securities("Q1", len(r.m.parties))) },
		func() (int, error) { return r.d.AddAccount(cash("Q1", -1)) },
		func() (int, error) { return r.d.AddSecurity(api.Security{}) },
		func() (int, error) { return r.d.AddSecurity(api.Security{Kind: api.Cash, Currency: "JPY"}) },
		func() (int, error) { return r.d.AddCash("JP") },
		func() (int, error) { return one(r.d.Close(-1, -1)) },
		func() (int, error) { return one(r.d.Close(0, 0)) },
		func() (int, error) { return one(r.d.Close(len(r.m.parties), -1)) },
		func() (int, error) { return one(r.d.Close(-1, len(r.m.accounts))) },
	}
	for n, p := range r.m.parties {
		l = append(l, func() (int, error) {
			return r.d.AddParty(api.Party{Bic: (p.Bic + "XXX")[:11], Name: "N", Closed: true})
		})
		if p.Closed {
			l = append(l, func() (int, error) { return r.d.AddAccount(cash("Q1", n)) })
		}
	}
	for n, a := range r.m.accounts {
		l = append(l, func() (int, error) {
			return r.d.AddAccount(api.Account{Id: a.Id, Party: a.Party, Cash: true, Closed: true})
		})
		l = append(l, func() (int, error) { return one(r.d.Close(a.Party, n)) })
	}
	for _, s := range r.m.assets {
		if s.Kind == api.Cash {
			l = append(l, func() (int, error) { return r.d.AddCash(s.Currency) })
			continue
		}
		l = append(l, func() (int, error) { return r.d.AddSecurity(bond(string(s.Code[:]))) })
	}
	return l
}

// P13.11: a refusal puts nothing in and closes nothing.
func TestRefusalsChangeNothing(t *testing.T) {
	for seed := range 60 {
		r := newRows(t, 1000+seed)
		for range seed {
			r.throw()
		}
		before := seen(t, r.d)
		for i, call := range wrongCalls(r) {
			if n, err := call(); n != 0 || err == nil {
				t.Fatalf("call %d is %d, %v", i, n, err)
			}
		}
		if after := seen(t, r.d); !slices.Equal(before, after) {
			t.Fatalf("seen were\n%v\nand are\n%v", before, after)
		}
		r.asked()
	}
}

// P13.11: what was put in is found at its number as long as the directory is, and numbers rise by one.
func TestNamesStay(t *testing.T) {
	for seed := range 100 {
		r := newRows(t, 2000+seed)
		var bics, ids, codes []string
		for range 120 {
			a, b, c := r.d.Counts()
			r.throw()
			if len(r.m.parties) > a {
				bics = append(bics, r.m.parties[a].Bic)
			}
			if len(r.m.accounts) > b {
				ids = append(ids, r.m.accounts[b].Id)
			}
			if len(r.m.assets) > c {
				codes = append(codes, textOf(r.m.assets[c]))
			}
			atTheirNumbers(t, r.d.Party, bics)
			atTheirNumbers(t, r.d.Account, ids)
			atTheirNumbers(t, r.d.Asset, codes)
			counts(t, r.d, len(bics), len(ids), len(codes))
		}
		if len(bics) < 2 || len(ids) < 4 || len(codes) < 2 {
			t.Fatalf("the dice put in %v, %v, %v alone", bics, ids, codes)
		}
	}
}

// textOf is an asset's name.
func textOf(s api.Security) string {
	if s.Kind == api.Cash {
		return s.Currency
	}
	return string(s.Code[:])
}

// atTheirNumbers checks that names lead to their places in the order in which they were put in.
func atTheirNumbers(t *testing.T, find func(string) (int, error), names []string) {
	t.Helper()
	for want, s := range names {
		if n, err := find(s); n != want || err != nil {
			t.Fatalf("%s is at %d, %v; want %d", s, n, err, want)
		}
	}
}

// builtUp is a directory in which each open party has a cash account, most of them just one, so that notices may well come to legs.
func builtUp(t *testing.T, seed int) rows {
	r := newRows(t, seed)
	for range 100 {
		r.throw()
	}
	r.d.AddCash("EUR")
	r.m.addCash("EUR")
	for of := range r.m.parties {
		if _, no := r.m.cashOf(of); no == api.ErrLost {
			a := cash("K"+idOf(of), of)
			got, err := r.d.AddAccount(a)
			want, no := r.m.addAccount(a)
			r.same("AddAccount", a, got, err, want, no)
		}
	}
	for range len(r.m.accounts) {
		n := r.Below(len(r.m.accounts))
		if _, no := r.m.cashOf(r.m.accounts[n].Party); no == api.ErrTwice && r.m.accounts[n].Cash {
			r.same("Close", n, 0, r.d.Close(-1, n), 0, r.m.close(-1, n))
		}
	}
	return r
}

// P13.12: both sides agree.
func TestBothSidesAgree(t *testing.T) {
	came := 0
	for seed := range 150 {
		r := builtUp(t, 3000+seed)
		for range 150 {
			n := r.throwNotice()
			legs, err := r.d.Legs(n)
			if err != nil {
				continue
			}
			own, err := r.d.Account(n.Account)
			if err != nil {
				t.Fatal(err)
			}
			bic := r.m.parties[r.m.accounts[own].Party].Bic
			back := n
			back.Receive, back.Account, back.Other = !n.Receive, n.Other, n.Account
			for _, back.Agent = range []string{bic, (bic + "XXX")[:11]} {
				if got, err := r.d.Legs(back); err != nil || !slices.Equal(got, legs) {
					t.Fatalf("Legs(%+v) is %v, but Legs(%+v) is %v, %v", n, legs, back, got, err)
				}
			}
			came++
		}
	}
	if came < 500 {
		t.Errorf("only %d came to legs", came)
	}
}

// P13.13: the legs are such as guard.Check takes. What that is stands here once more.
func TestLegsAreTaken(t *testing.T) {
	free, paid := 0, 0
	for seed := range 150 {
		r := builtUp(t, 4000+seed)
		_, accounts, assets := r.d.Counts()
		for range 150 {
			n := r.throwNotice()
			legs, err := r.d.Legs(n)
			if err != nil {
				continue
			}
			if len(legs) == 1 {
				free++
			} else {
				paid++
			}
			for _, l := range legs {
				if !isTaken(l, accounts, assets) {
					t.Fatalf("Legs(%+v) is %v, with %d accounts and %d assets", n, legs, accounts, assets)
				}
			}
			o := api.Op{Code: api.OpSubmit, Id: 1, Legs: legs}
			if err := guard.Check(api.Config{Accounts: accounts, Assets: assets}, o); len(legs) < 1 || len(legs) > 2 || err != nil {
				t.Fatalf("guard.Check of %v is %v", legs, err)
			}
		}
	}
	if free < 200 || paid < 200 {
		t.Errorf("only %d and %d came to legs", free, paid)
	}
}

// isTaken tells whether nothing is wrong with a leg by itself.
func isTaken(l api.Leg, accounts, assets int) bool {
	return l.From >= 0 && l.From < accounts && l.To >= 0 && l.To < accounts && l.From != l.To && l.Asset >= 0 && l.Asset < assets && l.Qty >= 1 && l.Name == 0
}

// R5: what is answered hangs on what was asked before alone: the same row of calls answers the same, each time.
func TestSameEachTime(t *testing.T) {
	for seed := range 20 {
		a, b := newRows(t, 5000+seed), newRows(t, 5000+seed)
		for range 60 {
			a.throw()
			b.throw()
			b.askedLegs(trade()) // to ask changes nothing
			b.asked()
			*b.Dice = proof.Dice(uint64(*a.Dice))
		}
		if x, y := seen(t, a.d), seen(t, b.d); !slices.Equal(x, y) {
			t.Fatalf("seen are\n%v\nand\n%v", x, y)
		}
	}
}
