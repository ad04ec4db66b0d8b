package party_test

import (
	"slices"
	"testing"

	"custody/api"
	"custody/party"
)

// example is the directory of the chapter's examples, as far as legs are asked of it.
func example(t *testing.T) *party.Directory {
	t.Helper()
	d := party.New()
	addParty(t, d, deut)
	addParty(t, d, bnp)
	for _, a := range []api.Account{securities("D1", 0), cash("D2", 0), securities("B1", 1), cash("B2", 1)} {
		addAccount(t, d, a)
	}
	addCash(t, d, "EUR")
	addSecurity(t, d, equity(share))
	return d
}

// trade is the chapter's notice: D1 delivers ten to B1 against 500.
func trade() api.Notice {
	return api.Notice{
		Ref: "N1", Pay: true, Trade: 738887, Settle: 738889, Code: api.Isin([]byte(share)), Qty: 10,
		Account: "D1", Agent: bnp, Other: "B1", Amount: 500, Currency: "EUR",
	}
}

// receipt is the other side's notice of that.
func receipt() api.Notice {
	n := trade()
	n.Ref, n.Receive, n.Account, n.Agent, n.Other = "N2", true, "B1", deut+"XXX", "D1"
	return n
}

// moved are the legs of both.
func moved() []api.Leg {
	return []api.Leg{{From: 0, To: 2, Asset: 1, Qty: 10}, {From: 3, To: 1, Asset: 0, Qty: 500}}
}

func TestExamplesPutIn(t *testing.T) {
	d := party.New()
	for _, x := range []struct {
		bic, name string
		want      int
		no        api.Errno
	}{{deut, "D", 0, 0}, {deut + "XXX", "E", 0, api.ErrTwice}, {bnp, "B", 1, 0}, {"X", "", 0, api.ErrForm}, {ubs, "", 0, api.ErrText}} {
		n, err := d.AddParty(api.Party{Bic: x.bic, Name: x.name})
		answers(t, x.bic, n, err, x.want, x.no)
	}
	for _, x := range []struct {
		a    api.Account
		want int
		no   api.Errno
	}{
		{securities("D1", 0), 0, 0}, {cash("D2", 0), 1, 0}, {securities("B1", 1), 2, 0}, {cash("B2", 1), 3, 0},
		{securities("B2", 2), 0, api.ErrLost}, {securities("B2", 1), 0, api.ErrTwice},
	} {
		n, err := d.AddAccount(x.a)
		answers(t, x.a.Id, n, err, x.want, x.no)
	}
	n, err := d.AddCash("EUR")
	answers(t, "EUR", n, err, 0, api.OK)
	n, err = d.AddSecurity(equity(share))
	answers(t, "s", n, err, 1, api.OK)
	n, err = d.AddSecurity(equity(share))
	answers(t, "s again", n, err, 0, api.ErrTwice)
	n, err = d.AddCash("E")
	answers(t, "E", n, err, 0, api.ErrForm)
}

func TestExamplesAsked(t *testing.T) {
	d := example(t)
	n, err := d.Party(bnp + "XXX")
	answers(t, "Party", n, err, 1, api.OK)
	n, err = d.Party("BNPA")
	answers(t, "Party", n, err, 0, api.ErrForm)
	n, err = d.Account("B9")
	answers(t, "Account", n, err, 0, api.ErrLost)
	n, err = d.Asset(share)
	answers(t, "Asset", n, err, 1, api.OK)
	n, err = d.CashOf(0)
	answers(t, "CashOf", n, err, 1, api.OK)
	n, err = d.Owner(3)
	answers(t, "Owner", n, err, 1, api.OK)
	n, err = d.Owner(4)
	answers(t, "Owner", n, err, 0, api.ErrAccount)
}

func TestExamplesLegs(t *testing.T) {
	d := example(t)
	agent, kind, dollars := receipt(), receipt(), receipt()
	agent.Agent, kind.Other, dollars.Currency = bnp, "D2", "USD"
	for i, x := range []struct {
		n    api.Notice
		want []api.Leg
		no   api.Errno
	}{{trade(), moved(), 0}, {receipt(), moved(), 0}, {agent, nil, api.ErrArg}, {kind, nil, api.ErrKind}, {dollars, nil, api.ErrAsset}} {
		if l, err := d.Legs(x.n); !slices.Equal(l, x.want) || !tells(err, x.no) {
			t.Errorf("Legs %d is %v, %v; want %v, %v", i, l, err, x.want, x.no)
		}
	}
}

func TestExamplesClosed(t *testing.T) {
	d := example(t)
	n, err := d.AddAccount(cash("D3", 0))
	answers(t, "AddAccount", n, err, 4, api.OK)
	n, err = d.CashOf(0)
	answers(t, "CashOf of two", n, err, 0, api.ErrTwice)
	closes(t, d, -1, 4)
	n, err = d.CashOf(0)
	answers(t, "CashOf of one", n, err, 1, api.OK)
	closes(t, d, 0, -1)
	n, err = d.CashOf(0)
	answers(t, "CashOf of a closed party", n, err, 0, api.ErrLost)
	if err := d.Close(0, 0); !tells(err, api.ErrArg) {
		t.Errorf("Close(0, 0) is %v", err)
	}
}
