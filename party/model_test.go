package party_test

import (
	"errors"
	"regexp"

	"custody/api"
	"custody/notice"
	"custody/price"
)

// model is a second reckoning of a directory: lists as they were put in, gone through from their beginning each time.
type model struct {
	parties  []api.Party
	accounts []api.Account
	assets   []api.Security
}

var (
	bicText      = regexp.MustCompile(`\A[A-Z]{6}[A-Z0-9]{2}([A-Z0-9]{3})?\z`)
	accountText  = regexp.MustCompile(`\A[A-Z0-9]{1,34}\z`)
	currencyText = regexp.MustCompile(`\A[A-Z]{3}\z`)
)

// numberOf is the number of an error, OK if there is none.
func numberOf(err error) api.Errno {
	var no api.Errno
	if err != nil && !errors.As(err, &no) {
		return -1
	}
	return no
}

// sameBic tells whether two BICs are the same, when the head office is told.
func sameBic(a, b string) bool { return (a + "XXX")[:11] == (b + "XXX")[:11] }

func (m *model) partyOf(bic string) int {
	for n, p := range m.parties {
		if sameBic(p.Bic, bic) {
			return n
		}
	}
	return -1
}

func (m *model) accountOf(id string) int {
	for n, a := range m.accounts {
		if a.Id == id {
			return n
		}
	}
	return -1
}

func (m *model) assetOf(code string) int {
	for n, s := range m.assets {
		if s.Kind != api.Cash && string(s.Code[:]) == code || s.Kind == api.Cash && s.Currency == code {
			return n
		}
	}
	return -1
}

func (m *model) closed(account int) bool {
	a := m.accounts[account]
	return a.Closed || m.parties[a.Party].Closed
}

func (m *model) addParty(p api.Party) (int, api.Errno) {
	switch {
	case !bicText.MatchString(p.Bic):
		return 0, api.ErrForm
	case len(p.Name) < 1 || len(p.Name) > 64:
		return 0, api.ErrText
	case m.partyOf(p.Bic) >= 0:
		return 0, api.ErrTwice
	}
	m.parties = append(m.parties, p)
	return len(m.parties) - 1, api.OK
}

func (m *model) addAccount(a api.Account) (int, api.Errno) {
	switch {
	case !accountText.MatchString(a.Id):
		return 0, api.ErrAccount
	case a.Party < 0 || a.Party >= len(m.parties):
		return 0, api.ErrLost
	case m.parties[a.Party].Closed:
		return 0, api.ErrClosed
	case m.accountOf(a.Id) >= 0:
		return 0, api.ErrTwice
	}
	m.accounts = append(m.accounts, a)
	return len(m.accounts) - 1, api.OK
}

func (m *model) addSecurity(s api.Security) (int, api.Errno) {
	switch no := numberOf(price.Check(s)); {
	case no != api.OK:
		return 0, no
	case s.Kind == api.Cash:
		return 0, api.ErrKind
	case m.assetOf(string(s.Code[:])) >= 0:
		return 0, api.ErrTwice
	}
	m.assets = append(m.assets, s)
	return len(m.assets) - 1, api.OK
}

func (m *model) addCash(currency string) (int, api.Errno) {
	switch {
	case !currencyText.MatchString(currency):
		return 0, api.ErrForm
	case m.assetOf(currency) >= 0:
		return 0, api.ErrTwice
	}
	m.assets = append(m.assets, api.Security{Kind: api.Cash, Currency: currency})
	return len(m.assets) - 1, api.OK
}

// found is a number, or ErrLost for one below 0.
func found(n int) (int, api.Errno) {
	if n < 0 {
		return 0, api.ErrLost
	}
	return n, api.OK
}

func (m *model) party(bic string) (int, api.Errno) {
	if !bicText.MatchString(bic) {
		return 0, api.ErrForm
	}
	return found(m.partyOf(bic))
}

func (m *model) security(n int) (api.Security, api.Errno) {
	if n < 0 || n >= len(m.assets) {
		return api.Security{}, api.ErrAsset
	}
	return m.assets[n], api.OK
}

func (m *model) owner(n int) (int, api.Errno) {
	if n < 0 || n >= len(m.accounts) {
		return 0, api.ErrAccount
	}
	return m.accounts[n].Party, api.OK
}

func (m *model) cashOf(of int) (int, api.Errno) {
	var open []int
	for n, a := range m.accounts {
		if a.Party == of && a.Cash && !m.closed(n) {
			open = append(open, n)
		}
	}
	switch len(open) {
	case 0:
		return 0, api.ErrLost
	case 1:
		return open[0], api.OK
	}
	return 0, api.ErrTwice
}

func (m *model) close(who, account int) api.Errno {
	switch {
	case who == -1 && account == -1, who != -1 && account != -1:
		return api.ErrArg
	case account == -1 && who >= 0 && who < len(m.parties):
		m.parties[who].Closed = true
	case who == -1 && account >= 0 && account < len(m.accounts):
		m.accounts[account].Closed = true
	default:
		return api.ErrLost
	}
	return api.OK
}

func (m *model) legs(n api.Notice) ([]api.Leg, api.Errno) {
	if no := numberOf(notice.Check(n)); no != api.OK {
		return nil, no
	}
	own, other, agent, asset := m.accountOf(n.Account), m.accountOf(n.Other), m.partyOf(n.Agent), m.assetOf(string(n.Code[:]))
	switch {
	case own < 0, other < 0:
		return nil, api.ErrAccount
	case agent < 0:
		return nil, api.ErrLost
	case m.accounts[other].Party != agent:
		return nil, api.ErrArg
	case m.accounts[own].Cash, m.accounts[other].Cash:
		return nil, api.ErrKind
	case own == other:
		return nil, api.ErrSame
	case m.closed(own), m.closed(other):
		return nil, api.ErrClosed
	case asset < 0, n.Pay && m.assetOf(n.Currency) < 0:
		return nil, api.ErrAsset
	}
	from, to := own, other
	if n.Receive {
		from, to = other, own
	}
	l := []api.Leg{{From: from, To: to, Asset: asset, Qty: n.Qty}}
	if !n.Pay {
		return l, api.OK
	}
	payer, no := m.cashOf(m.accounts[to].Party)
	if no != api.OK {
		return nil, no
	}
	payee, no := m.cashOf(m.accounts[from].Party)
	if no != api.OK {
		return nil, no
	}
	if payer == payee {
		return nil, api.ErrSame
	}
	return append(l, api.Leg{From: payer, To: payee, Asset: m.assetOf(n.Currency), Qty: n.Amount}), api.OK
}
