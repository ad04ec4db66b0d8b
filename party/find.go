package party

import (
	"custody/api"
	"custody/codes"
)

// Party is a party's number, by its BIC.
func (d *Directory) Party(bic string) (int, error) {
	parts, err := partsOf(bic)
	if err != nil {
		return 0, err
	}
	return find(d.byBic, parts)
}

// Account is an account's number, by its text.
func (d *Directory) Account(id string) (int, error) { return find(d.byId, id) }

// Asset is an asset's number, by its ISIN or currency.
func (d *Directory) Asset(code string) (int, error) { return find(d.byCode, code) }

// Security is the security of an asset's number.
func (d *Directory) Security(asset int) (api.Security, error) {
	if !isOne(asset, d.assets) {
		return api.Security{}, refuse("the asset's number", api.ErrAsset)
	}
	return copied(d.assets[asset]), nil
}

// Owner is the party of an account.
func (d *Directory) Owner(account int) (int, error) {
	if !isOne(account, d.accounts) {
		return 0, refuse("the account's number", api.ErrAccount)
	}
	return d.accounts[account].party, nil
}

// CashOf is the one open cash account of a party.
func (d *Directory) CashOf(party int) (int, error) {
	if !isOne(party, d.parties) {
		return 0, refuse("the party's number", api.ErrLost)
	}
	one := none
	for _, n := range d.parties[party].cash {
		if d.isClosed(n) {
			continue
		}
		if one != none {
			return 0, refuse("an open cash account", api.ErrTwice)
		}
		one = n
	}
	if one == none {
		return 0, refuse("an open cash account", api.ErrLost)
	}
	return one, nil
}

// partsOf are the parts of a BIC, which are the same for each way to write it.
func partsOf(bic string) ([4]string, error) {
	parts, err := codes.Bic(bic)
	if err != nil {
		return [4]string{}, refuse("the BIC", api.ErrForm)
	}
	return parts, nil
}

// find is the number to which a name leads.
func find[K comparable](numbers map[K]int, name K) (int, error) {
	n, ok := numbers[name]
	if !ok {
		return 0, refuse("the name", api.ErrLost)
	}
	return n, nil
}
