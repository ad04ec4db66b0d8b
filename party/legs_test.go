package party_test

import (
	"slices"
	"testing"

	"custody/api"
	"custody/party"
	"custody/proof"
)

const (
	natx = "NATXFRPP" // without a cash account that is open
	shut = "CLOSDEFF" // closed
	lost = "MIDLGB22" // not put in
)

// full is a directory in which each thing that may be wrong with a notice can be told. D and B have one cash account each; U has two.
func full(t *testing.T) rows {
	t.Helper()
	r := newRows(t, 0)
	for _, bic := range []string{deut, bnp, ubs, natx, shut} {
		p := api.Party{Bic: bic, Name: "N"}
		got, err := r.d.AddParty(p)
		want, no := r.m.addParty(p)
		r.same("AddParty", p, got, err, want, no)
	}
	for _, a := range []api.Account{
		securities("D1", 0), cash("D2", 0), securities("B1", 1), cash("B2", 1), securities("U1", 2), cash("U2", 2), cash("U3", 2), securities("N1", 3), securities("C1", 4), cash("C2", 4),
		securities("D5", 0), {Id: "D6", Closed: true}, {Id: "D7", Cash: true, Closed: true}, securities("B5", 1), cash("N2", 3),
	} {
		got, err := r.d.AddAccount(a)
		want, no := r.m.addAccount(a)
		r.same("AddAccount", a, got, err, want, no)
	}
	for _, x := range [][2]int{{4, -1}, {-1, 13}, {-1, 14}} {
		r.same("Close", x, 0, r.d.Close(x[0], x[1]), 0, r.m.close(x[0], x[1]))
	}
	addCash(t, r.d, "EUR")
	r.m.addCash("EUR")
	for _, s := range []api.Security{equity(share), bond(bayer)} {
		addSecurity(t, r.d, s)
		r.m.addSecurity(s)
	}
	return r
}

// turns are changes of a notice.
type turns []func(n *api.Notice)

func own(id string) func(n *api.Notice) { return func(n *api.Notice) { n.Account = id } }

func other(id, agent string) func(n *api.Notice) {
	return func(n *api.Notice) { n.Other, n.Agent = id, agent }
}

func agent(bic string) func(n *api.Notice) { return func(n *api.Notice) { n.Agent = bic } }

func code(s string) func(n *api.Notice) { return func(n *api.Notice) { n.Code = api.Isin([]byte(s)) } }

func money(s string) func(n *api.Notice) { return func(n *api.Notice) { n.Currency = s } }

func receive(n *api.Notice) { n.Receive = true }

func free(n *api.Notice) { n.Pay, n.Amount, n.Currency = false, 0, "" }

// refuses checks the error of the notice D1, B1, 500 EUR with these changes; and that nothing stands beside it.
func refuses(t *testing.T, d *party.Directory, no api.Errno, l ...func(n *api.Notice)) {
	t.Helper()
	n := trade()
	for _, turn := range l {
		turn(&n)
	}
	if got, err := d.Legs(n); len(got) != 0 || !tells(err, no) {
		t.Errorf("Legs(%+v) is %v, %v; want %v", n, got, err, no)
	}
}

// comes checks the legs of the notice D1, B1, 500 EUR with these changes.
func comes(t *testing.T, d *party.Directory, want []api.Leg, l ...func(n *api.Notice)) {
	t.Helper()
	n := trade()
	for _, turn := range l {
		turn(&n)
	}
	if got, err := d.Legs(n); err != nil || !slices.Equal(got, want) {
		t.Errorf("Legs(%+v) is %v, %v; want %v", n, got, err, want)
	}
}

func TestLegs(t *testing.T) {
	d := full(t).d
	there := []api.Leg{{From: 0, To: 2, Asset: 1, Qty: 10}, {From: 3, To: 1, Qty: 500}}
	back := []api.Leg{{From: 2, To: 0, Asset: 1, Qty: 10}, {From: 1, To: 3, Qty: 500}}
	comes(t, d, there)
	comes(t, d, there, agent(bnp+"XXX"))
	comes(t, d, there, own("B1"), other("D1", deut), receive)
	comes(t, d, back, own("B1"), other("D1", deut))
	comes(t, d, back, receive)
	comes(t, d, there[:1], free)
	comes(t, d, back[:1], free, receive)
	comes(t, d, []api.Leg{{From: 10, To: 2, Asset: 2, Qty: 10}, there[1]}, own("D5"), code(bayer))
	comes(t, d, []api.Leg{{From: 0, To: 2, Asset: 1, Qty: api.MaxAmount}, {From: 3, To: 1, Qty: api.MaxAmount}}, func(n *api.Notice) { n.Qty, n.Amount = api.MaxAmount, api.MaxAmount })
	comes(t, d, []api.Leg{{From: 0, To: 2, Asset: 1, Qty: 1}, {From: 3, To: 1, Qty: 1}}, func(n *api.Notice) { n.Qty, n.Amount = 1, 1 })
	comes(t, d, there, func(n *api.Notice) { n.Cancel, n.Prev = true, "N0" }) // what it comes to doesn't hang on these
	comes(t, d, there, func(n *api.Notice) { n.Priority, n.Links = 7, []api.Link{{Kind: api.With, Ref: "N7"}} })
	comes(t, d, there, func(n *api.Notice) { n.Trade, n.Settle = 1, 3652059 })
}

// Free of payment nobody needs a cash account or a currency, and two accounts of one party may deal.
func TestLegsFree(t *testing.T) {
	d := full(t).d
	comes(t, d, []api.Leg{{From: 7, To: 4, Asset: 1, Qty: 10}}, free, own("N1"), other("U1", ubs))
	comes(t, d, []api.Leg{{From: 4, To: 7, Asset: 1, Qty: 10}}, free, own("N1"), other("U1", ubs), receive)
	comes(t, d, []api.Leg{{From: 0, To: 10, Asset: 1, Qty: 10}}, free, other("D5", deut))
	e := party.New()
	addParty(t, e, deut)
	addAccount(t, e, securities("D1", 0))
	addAccount(t, e, securities("D2", 0))
	addSecurity(t, e, equity(share))
	comes(t, e, []api.Leg{{From: 0, To: 1, Qty: 10}}, free, other("D2", deut))
	refuses(t, e, api.ErrAsset, other("D2", deut))
}

// wrong is one thing that is wrong, and the parts of a notice that it needs: of two that need one, both can't be told at once.
type wrong struct {
	parts string
	no    api.Errno
	turns turns
}

// wrongs are the things that may be wrong with the notice D1, B1, 500 EUR in the full directory, the first to be told first.
func wrongs() []wrong {
	return []wrong{
		{"q", api.ErrAmount, turns{func(n *api.Notice) { n.Qty = 0 }}},
		{"l", api.ErrKind, turns{func(n *api.Notice) { n.Links = []api.Link{{Ref: "A"}} }}},
		{"a", api.ErrAccount, turns{own("Z1")}},
		{"o", api.ErrAccount, turns{func(n *api.Notice) { n.Other = "Z1" }}},
		{"g", api.ErrLost, turns{agent(lost)}},
		{"g", api.ErrLost, turns{agent(bnp + "500")}},
		{"g", api.ErrArg, turns{agent(ubs)}},
		{"g", api.ErrArg, turns{agent(deut)}},
		{"g", api.ErrArg, turns{agent(shut)}},
		{"a", api.ErrKind, turns{own("D2")}},
		{"a", api.ErrKind, turns{own("D7")}},
		{"o", api.ErrKind, turns{func(n *api.Notice) { n.Other = "B2" }}},
		{"ao", api.ErrSame, turns{own("B1")}},
		{"a", api.ErrClosed, turns{own("D6")}},
		{"a", api.ErrClosed, turns{own("C1")}},
		{"o", api.ErrClosed, turns{func(n *api.Notice) { n.Other = "B5" }}},
		{"c", api.ErrAsset, turns{code(gilt)}},
		{"m", api.ErrAsset, turns{money("USD")}},
	}
}

func TestLegsEachAlone(t *testing.T) {
	d := full(t).d
	for _, w := range wrongs() {
		refuses(t, d, w.no, w.turns...)
	}
	refuses(t, d, api.ErrClosed, other("C1", shut))
	refuses(t, d, api.ErrClosed, other("C1", shut), receive)
	refuses(t, d, api.ErrKind, other("C2", shut))
	refuses(t, d, api.ErrKind, other("D2", deut))
	refuses(t, d, api.ErrLost, own("N1"))
	refuses(t, d, api.ErrTwice, own("U1"))
	refuses(t, d, api.ErrLost, other("N1", natx))
	refuses(t, d, api.ErrTwice, other("U1", ubs))
	refuses(t, d, api.ErrSame, other("D5", deut))
	refuses(t, d, api.ErrSame, own("D5"), other("D1", deut), receive)
}

func TestLegsEachAheadOfTheNext(t *testing.T) {
	d := full(t).d
	l := wrongs()
	for i, a := range l {
		for _, b := range l[i+1:] {
			if !shareParts(a.parts, b.parts) {
				refuses(t, d, a.no, append(slices.Clone(a.turns), b.turns...)...)
			}
		}
		// The cash accounts come last: of the one that receives, of the one that delivers, both the same.
		for _, late := range []struct {
			parts string
			turn  func(n *api.Notice)
		}{{"a", own("N1")}, {"a", own("U1")}, {"og", other("N1", natx)}, {"og", other("U1", ubs)}, {"og", other("D5", deut)}} {
			if !shareParts(a.parts, late.parts) {
				refuses(t, d, a.no, append(slices.Clone(a.turns), late.turn)...)
			}
		}
	}
}

// shareParts tells whether two things need one part of a notice.
func shareParts(a, b string) bool {
	return slices.ContainsFunc([]byte(a), func(c byte) bool { return slices.Contains([]byte(b), c) })
}

// Things that need the same part of a notice, told by other accounts.
func TestLegsOrder(t *testing.T) {
	d := full(t).d
	refuses(t, d, api.ErrAccount, own("Z1"), other("Z2", lost))
	refuses(t, d, api.ErrArg, own("B2"), other("B2", ubs))       // ahead of ErrKind, ErrSame
	refuses(t, d, api.ErrArg, own("B1"), other("B1", ubs))       // ahead of ErrSame
	refuses(t, d, api.ErrArg, other("B5", ubs))                  // ahead of ErrClosed
	refuses(t, d, api.ErrKind, own("B2"), other("B2", bnp))      // ahead of ErrSame
	refuses(t, d, api.ErrKind, own("D6"), other("B2", bnp))      // ahead of ErrClosed
	refuses(t, d, api.ErrKind, own("C2"), other("C1", shut))     // ahead of ErrClosed
	refuses(t, d, api.ErrSame, own("B5"), other("B5", bnp))      // ahead of ErrClosed
	refuses(t, d, api.ErrSame, own("C1"), other("C1", shut))     // ahead of ErrClosed
	refuses(t, d, api.ErrClosed, own("C1"), code(gilt))          // ahead of ErrAsset
	refuses(t, d, api.ErrClosed, own("C1"), free)                // a closed party's, free too
	refuses(t, d, api.ErrAsset, own("U1"), code(gilt), free)     // free too
	refuses(t, d, api.ErrAsset, own("N1"), money("USD"))         // ahead of CashOf's
	refuses(t, d, api.ErrAsset, other("D5", deut), money("USD")) // ahead of the last ErrSame
	refuses(t, d, api.ErrAmount, own("Z1"), other("Z2", lost), func(n *api.Notice) { n.Amount = 0 })
}

// Who receives is asked for its cash account first, whoever tells it.
func TestLegsWhoPaysIsAskedFirst(t *testing.T) {
	d := full(t).d
	refuses(t, d, api.ErrTwice, own("N1"), other("U1", ubs))
	refuses(t, d, api.ErrLost, own("N1"), other("U1", ubs), receive)
	refuses(t, d, api.ErrLost, own("U1"), other("N1", natx))
	refuses(t, d, api.ErrTwice, own("U1"), other("N1", natx), receive)
	addAccount(t, d, securities("N9", 3))
	refuses(t, d, api.ErrLost, own("N1"), other("N9", natx)) // ahead of the last ErrSame
	addAccount(t, d, securities("U9", 2))
	refuses(t, d, api.ErrTwice, own("U1"), other("U9", ubs))
}

// In the full directory every notice of two accounts, an agent, a code and a currency, told by either side, free or not, comes to what the second reckoning says.
func TestLegsOfAll(t *testing.T) {
	r := full(t)
	ids := []string{"D1", "D2", "B1", "B2", "U1", "U2", "N1", "C1", "C2", "D5", "D6", "D7", "B5", "N2", "Z1"}
	for _, a := range ids {
		for _, b := range ids {
			for _, bic := range []string{deut, bnp + "XXX", ubs, natx, shut, lost} {
				r.legsOfAll(a, b, bic)
			}
		}
	}
}

func (r rows) legsOfAll(a, b, bic string) {
	for way := range 16 {
		n := trade()
		n.Account, n.Other, n.Agent, n.Receive = a, b, bic, way&1 > 0
		if way&2 > 0 {
			n.Code = api.Isin([]byte(gilt))
		}
		if way&4 > 0 {
			n.Currency = "USD"
		}
		if way&8 > 0 {
			free(&n)
		}
		r.askedLegs(n)
	}
}

// A notice that notice.Check refuses is refused by its error, whatever else is wrong; here by a number that no other place of Legs tells.
func TestLegsOfNoNotice(t *testing.T) {
	r := full(t)
	for _, turn := range []func(n *api.Notice){
		func(n *api.Notice) { *n = api.Notice{} },
		func(n *api.Notice) { n.Ref = "" },
		func(n *api.Notice) { n.Cancel = true },
		func(n *api.Notice) { n.Prev = "A" },
		func(n *api.Notice) { n.Settle = n.Trade - 1 },
		func(n *api.Notice) { n.Code[3] = 'x' },
		func(n *api.Notice) { n.Code = api.Isin{} },
		func(n *api.Notice) { n.Qty = -1 },
		func(n *api.Notice) { n.Account = "" },
		func(n *api.Notice) { n.Agent = "DEUT" },
		func(n *api.Notice) { n.Agent = "deutdeff" },
		func(n *api.Notice) { n.Other = "B-1" },
		func(n *api.Notice) { n.Amount = 0 },
		func(n *api.Notice) { n.Currency = "" },
		func(n *api.Notice) { n.Pay = false },
		func(n *api.Notice) { n.Priority = 10000 },
		func(n *api.Notice) { n.Links = make([]api.Link, 17) },
		func(n *api.Notice) { n.Links = []api.Link{{Kind: api.With, Ref: n.Ref}} },
	} {
		n := trade()
		turn(&n)
		if _, no := r.askedLegs(n); no == api.OK {
			t.Errorf("nothing is wrong with %+v", n)
		}
		n.Qty, n.Other = proof.Of(r.Dice, n.Qty, 0), "Z1"
		r.askedLegs(n)
	}
}
