package party

import (
	"custody/api"
	"custody/codes"
	"custody/notice"
)

// Legs are the legs of a notice, the same whichever side tells it: securities against cash, or free.
func (d *Directory) Legs(n api.Notice) ([]api.Leg, error) {
	if err := notice.Check(n); err != nil {
		return nil, refusedBelow("the notice", err)
	}
	from, to, err := d.sides(n)
	if err != nil {
		return nil, err
	}
	asset, err := d.Asset(codes.Text(n.Code))
	if err != nil {
		return nil, lostAs("the security", api.ErrAsset, err)
	}
	legs := []api.Leg{{From: from, To: to, Asset: asset, Qty: n.Qty}}
	if !n.Pay {
		return legs, nil
	}
	pay, err := d.payment(n, d.accounts[to].party, d.accounts[from].party)
	if err != nil {
		return nil, err
	}
	return append(legs, pay), nil
}

// sides are the accounts between which a notice moves securities, as it may: from the one, to the other.
func (d *Directory) sides(n api.Notice) (from, to int, err error) {
	own, err := d.Account(n.Account)
	if err != nil {
		return 0, 0, lostAs("the own account", api.ErrAccount, err)
	}
	other, err := d.Account(n.Other)
	if err != nil {
		return 0, 0, lostAs("the other account", api.ErrAccount, err)
	}
	agent, err := d.Party(n.Agent)
	if err != nil {
		return 0, 0, refusal{"the agent", err}
	}
	switch {
	case d.accounts[other].party != agent:
		return 0, 0, refuse("the agent", api.ErrArg)
	case d.accounts[own].cash || d.accounts[other].cash:
		return 0, 0, refuse("the accounts", api.ErrKind)
	case own == other:
		return 0, 0, refuse("the accounts", api.ErrSame)
	case d.isClosed(own) || d.isClosed(other):
		return 0, 0, refuse("the accounts", api.ErrClosed)
	case n.Receive:
		return other, own, nil
	}
	return own, other, nil
}

// payment is the leg of a notice's money, between the cash accounts of two parties.
func (d *Directory) payment(n api.Notice, payer, payee int) (api.Leg, error) {
	currency, err := d.Asset(n.Currency)
	if err != nil {
		return api.Leg{}, lostAs("the currency", api.ErrAsset, err)
	}
	from, err := d.CashOf(payer)
	if err != nil {
		return api.Leg{}, refusal{"who receives", err}
	}
	to, err := d.CashOf(payee)
	if err != nil {
		return api.Leg{}, refusal{"who delivers", err}
	}
	if from == to {
		return api.Leg{}, refuse("the cash accounts", api.ErrSame)
	}
	return api.Leg{From: from, To: to, Asset: currency, Qty: n.Amount}, nil
}
