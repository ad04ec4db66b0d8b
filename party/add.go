package party

import (
	"errors"
	"strings"

	"custody/api"
	"custody/codes"
	"custody/price"
)

// maxPartyName is how many bytes the name of a party has at most.
const maxPartyName = 64

// AddParty puts a party in: its number.
func (d *Directory) AddParty(p api.Party) (int, error) {
	bic, err := partsOf(p.Bic)
	if err != nil {
		return 0, err
	}
	if p.Name == "" || len(p.Name) > maxPartyName {
		return 0, refuse("the party's name", api.ErrText)
	}
	n, err := next(d.byBic, bic, api.MaxAccounts)
	if err != nil {
		return 0, err
	}
	d.byBic[bic] = n
	d.parties = append(d.parties, member{closed: p.Closed})
	return n, nil
}

// AddAccount puts an account in: its number.
func (d *Directory) AddAccount(a api.Account) (int, error) {
	switch {
	case codes.Account(a.Id) != nil:
		return 0, refuse("the account's id", api.ErrAccount)
	case !isOne(a.Party, d.parties):
		return 0, refuse("the account's party", api.ErrLost)
	case d.parties[a.Party].closed:
		return 0, refuse("the account's party", api.ErrClosed)
	}
	n, err := next(d.byId, a.Id, api.MaxAccounts)
	if err != nil {
		return 0, err
	}
	d.byId[strings.Clone(a.Id)] = n
	d.accounts = append(d.accounts, account{a.Party, a.Cash, a.Closed})
	if a.Cash {
		p := &d.parties[a.Party]
		p.cash = append(p.cash, n)
	}
	return n, nil
}

// AddSecurity puts a security in as an asset: its number.
func (d *Directory) AddSecurity(s api.Security) (int, error) {
	if err := price.Check(s); err != nil {
		return 0, refusedBelow("the security", err)
	}
	if s.Kind == api.Cash {
		return 0, refuse("the security", api.ErrKind)
	}
	return d.addAsset(codes.Text(s.Code), s)
}

// AddCash puts a currency in as an asset: its number.
func (d *Directory) AddCash(currency string) (int, error) {
	if codes.Currency(currency) != nil {
		return 0, refuse("the currency", api.ErrForm)
	}
	return d.addAsset(strings.Clone(currency), api.Security{Kind: api.Cash, Currency: currency})
}

// addAsset puts an asset in under a text that it may keep.
func (d *Directory) addAsset(code string, s api.Security) (int, error) {
	n, err := next(d.byCode, code, api.MaxAssets)
	if err != nil {
		return 0, err
	}
	d.byCode[code] = n
	d.assets = append(d.assets, copied(s))
	return n, nil
}

// copied is a security whose text is its own memory.
func copied(s api.Security) api.Security {
	s.Currency = strings.Clone(s.Currency)
	return s
}

// next is the number of a new thing of a name, among at most limit of its kind.
func next[K comparable](numbers map[K]int, name K, limit int) (int, error) {
	if _, err := find(numbers, name); !errors.Is(err, api.ErrLost) {
		return 0, refuse("what is put in", api.ErrTwice)
	}
	if len(numbers) >= limit {
		return 0, refuse("what is put in", api.ErrMany)
	}
	return len(numbers), nil
}
