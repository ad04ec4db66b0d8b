package party_test

import (
	"fmt"
	"slices"
	"strings"
	"testing"

	"custody/api"
	"custody/party"
	"custody/proof"
)

// Names that are thrown: few, so that they meet again, and some that are none.
func someBics() []string {
	return []string{deut, deut + "XXX", deut + "500", bnp, bnp + "XXX", ubs, ubs + "001", "NATXFRPP", "X", "deutdeff", deut + "5"}
}

func someIds() []string {
	return []string{"A1", "A2", "A3", "A4", "A5", "A6", "A7", "A8", "A9", "B1", "B2", "B3", "EUR", share, "a1", "", strings.Repeat("A", 35)}
}

func someCodes() []string {
	return []string{share, bayer, gilt, "EUR", "USD", "CHF", "US0378331004", "EURO", "E", ""}
}

// rows is a directory and its second reckoning, of which the same is asked.
type rows struct {
	t *testing.T
	d *party.Directory
	m *model
	*proof.Dice
}

func newRows(t *testing.T, seed int) rows {
	dice := proof.Dice(seed)
	return rows{t, party.New(), &model{}, &dice}
}

// same checks what a call answered against the second reckoning.
func (r rows) same(what string, arg any, got int, err error, want int, no api.Errno) {
	r.t.Helper()
	if got != want || !tells(err, no) {
		r.t.Fatalf("%s(%+v) is %d, %v; want %d, %v", what, arg, got, err, want, no)
	}
}

func (r rows) throwParty() {
	p := api.Party{Bic: proof.Of(r.Dice, someBics()...), Name: proof.Of(r.Dice, "N", "N", "N", "M", "", strings.Repeat("n", 64), strings.Repeat("n", 65)), Closed: r.Below(12) == 0}
	got, err := r.d.AddParty(p)
	want, no := r.m.addParty(p)
	r.same("AddParty", p, got, err, want, no)
}

func (r rows) throwAccount() {
	a := api.Account{Id: proof.Of(r.Dice, someIds()...), Party: r.Below(len(r.m.parties)+3) - 1, Cash: r.Below(10) < 3, Closed: r.Below(12) == 0}
	got, err := r.d.AddAccount(a)
	want, no := r.m.addAccount(a)
	r.same("AddAccount", a, got, err, want, no)
}

func (r rows) throwSecurity() {
	kind := proof.Of(r.Dice, equity, bond, bill)
	s := kind(proof.Of(r.Dice, share, bayer, gilt, "US0378331004"))
	switch r.Below(12) {
	case 0:
		s.Kind = r.Below(6)
	case 1:
		s.Face = 0
	case 2:
		s.Currency = proof.Of(r.Dice, "E", "USD")
	case 3:
		s = api.Security{Kind: api.Cash, Currency: proof.Of(r.Dice, "EUR", "E", "JPY")}
	}
	got, err := r.d.AddSecurity(s)
	want, no := r.m.addSecurity(s)
	r.same("AddSecurity", s, got, err, want, no)
}

func (r rows) throwCash() {
	s := proof.Of(r.Dice, someCodes()...)
	got, err := r.d.AddCash(s)
	want, no := r.m.addCash(s)
	r.same("AddCash", s, got, err, want, no)
}

func (r rows) throwClose() {
	who, account := r.Below(len(r.m.parties)+4)-2, r.Below(len(r.m.accounts)+4)-2
	switch r.Below(8) {
	case 0:
		account = -1
	case 1, 2, 3, 4, 5:
		who = -1
	}
	err := r.d.Close(who, account)
	r.same("Close", []int{who, account}, 0, err, 0, r.m.close(who, account))
}

// throw does one call on both.
func (r rows) throw() {
	switch r.Below(20) {
	case 0, 1, 2, 3:
		r.throwParty()
	case 4, 5:
		r.throwSecurity()
	case 6, 7:
		r.throwCash()
	case 8:
		r.throwClose()
	default:
		r.throwAccount()
	}
}

// asked asks both for all names and numbers.
func (r rows) asked() {
	r.t.Helper()
	a, b, c := r.d.Counts()
	if a != len(r.m.parties) || b != len(r.m.accounts) || c != len(r.m.assets) {
		r.t.Fatalf("Counts is %d, %d, %d; want those of %+v", a, b, c, *r.m)
	}
	for _, s := range someBics() {
		got, err := r.d.Party(s)
		want, no := r.m.party(s)
		r.same("Party", s, got, err, want, no)
	}
	for _, s := range someIds() {
		got, err := r.d.Account(s)
		want, no := found(r.m.accountOf(s))
		r.same("Account", s, got, err, want, no)
	}
	for _, s := range someCodes() {
		got, err := r.d.Asset(s)
		want, no := found(r.m.assetOf(s))
		r.same("Asset", s, got, err, want, no)
	}
	r.askedNumbers()
}

// askedNumbers asks both for all numbers, and those on either side of them.
func (r rows) askedNumbers() {
	r.t.Helper()
	for n := -1; n <= len(r.m.assets); n++ {
		got, err := r.d.Security(n)
		want, no := r.m.security(n)
		if got != want || !tells(err, no) {
			r.t.Fatalf("Security(%d) is %+v, %v; want %+v, %v", n, got, err, want, no)
		}
	}
	for n := -1; n <= len(r.m.accounts); n++ {
		got, err := r.d.Owner(n)
		want, no := r.m.owner(n)
		r.same("Owner", n, got, err, want, no)
	}
	for n := -1; n <= len(r.m.parties); n++ {
		got, err := r.d.CashOf(n)
		want, no := r.m.cashOf(n)
		r.same("CashOf", n, got, err, want, no)
	}
}

// throwNotice is a notice of two accounts; mostly such that the agent is the other one's party.
func (r rows) throwNotice() api.Notice {
	n := trade()
	n.Account, n.Other = proof.Of(r.Dice, someIds()[:13]...), proof.Of(r.Dice, someIds()[:13]...)
	n.Agent = proof.Of(r.Dice, someBics()[:8]...)
	if other := r.m.accountOf(n.Other); other >= 0 && r.Below(8) > 0 {
		n.Agent = r.m.parties[r.m.accounts[other].Party].Bic
	}
	n.Receive = r.Below(2) == 0
	n.Code = api.Isin([]byte(proof.Of(r.Dice, share, share, bayer, gilt)))
	n.Qty = int64(1 + r.Below(100))
	n.Amount = int64(1 + r.Below(100))
	n.Currency = proof.Of(r.Dice, "EUR", "EUR", "USD", "CHF")
	if r.Below(3) == 0 {
		n.Pay, n.Amount, n.Currency = false, 0, ""
	}
	switch r.Below(40) {
	case 0:
		n.Qty = 0
	case 1:
		n.Other = ""
	case 2:
		n.Agent = "X"
	case 3:
		n.Links = []api.Link{{Kind: 9}}
	case 4:
		n.Cancel, n.Prev = true, "N0"
	}
	return n
}

// askedLegs asks both for the legs of a notice: what is answered.
func (r rows) askedLegs(n api.Notice) ([]api.Leg, api.Errno) {
	r.t.Helper()
	got, err := r.d.Legs(n)
	want, no := r.m.legs(n)
	if !slices.Equal(got, want) || !tells(err, no) {
		r.t.Fatalf("Legs(%+v) is %v, %v; want %v, %v, of %+v", n, got, err, want, no, *r.m)
	}
	return want, no
}

// Rows of calls answer as the second reckoning, and so do all names and numbers behind each of them.
func TestRows(t *testing.T) {
	seen := map[string]int{}
	for seed := range 400 {
		r := newRows(t, seed)
		for range 80 {
			r.throw()
			r.asked()
			for range 6 {
				n := r.throwNotice()
				_, no := r.askedLegs(n)
				seen[fmt.Sprint(no, n.Pay, n.Receive)]++
			}
		}
	}
	for _, no := range []api.Errno{api.OK, api.ErrAccount, api.ErrLost, api.ErrArg, api.ErrKind, api.ErrSame, api.ErrClosed, api.ErrAsset, api.ErrTwice, api.ErrAmount, api.ErrForm} {
		if seen[fmt.Sprint(no, true, true)] == 0 || seen[fmt.Sprint(no, true, false)] == 0 {
			t.Errorf("the dice never came to %v: %v", no, seen)
		}
	}
}
