package party_test

import (
	"errors"
	"math"
	"slices"
	"strings"
	"testing"

	"custody/api"
	"custody/codes"
	"custody/party"
	"custody/proof"
)

const (
	deut  = "DEUTDEFF"
	bnp   = "BNPAFRPP"
	ubs   = "UBSWCHZH"
	share = "US0378331005"
	bayer = "DE000BAY0017"
	gilt  = "GB0002634946"
)

// tells tells whether err is the refusal by just this number: one that wraps it, and has a text that ends with its text.
func tells(err error, no api.Errno) bool {
	if no == api.OK {
		return err == nil
	}
	return proof.Tells(err, no) && errors.Unwrap(err) != nil && strings.HasSuffix(err.Error(), ": "+no.Error())
}

// answers checks a number, or an error and the number 0 beside it.
func answers(t *testing.T, what string, got int, err error, want int, no api.Errno) {
	t.Helper()
	if got != want || !tells(err, no) {
		t.Errorf("%q: %d, %v; want %d, %v", what, got, err, want, no)
	}
}

// equity is a share of that code, in euros.
func equity(code string) api.Security {
	return api.Security{Code: api.Isin([]byte(code)), Kind: api.Equity, Currency: "EUR"}
}

// bond is a bond of that code, in euros.
func bond(code string) api.Security {
	return api.Security{Code: api.Isin([]byte(code)), Kind: api.Bond, Face: 100000, Coupon: 50000, Per: 2, Basis: api.Thirty, Start: 738535, End: 739447, Currency: "EUR"}
}

// bill is a bill of that code, in dollars.
func bill(code string) api.Security {
	return api.Security{Code: api.Isin([]byte(code)), Kind: api.Bill, Face: 100000, Basis: api.Act365, Start: 738886, End: 738976, Currency: "USD"}
}

// securities is an account for securities, cash one for cash.
func securities(id string, of int) api.Account { return api.Account{Id: id, Party: of} }

func cash(id string, of int) api.Account { return api.Account{Id: id, Party: of, Cash: true} }

// addParty puts a party in that nothing is wrong with.
func addParty(t *testing.T, d *party.Directory, bic string) int {
	t.Helper()
	n, err := d.AddParty(api.Party{Bic: bic, Name: "N"})
	if err != nil {
		t.Fatalf("AddParty(%q) is %v", bic, err)
	}
	return n
}

// addAccount puts an account in that nothing is wrong with.
func addAccount(t *testing.T, d *party.Directory, a api.Account) int {
	t.Helper()
	n, err := d.AddAccount(a)
	if err != nil {
		t.Fatalf("AddAccount(%+v) is %v", a, err)
	}
	return n
}

// addSecurity puts a security in that nothing is wrong with.
func addSecurity(t *testing.T, d *party.Directory, s api.Security) int {
	t.Helper()
	n, err := d.AddSecurity(s)
	if err != nil {
		t.Fatalf("AddSecurity(%+v) is %v", s, err)
	}
	return n
}

// addCash puts a currency in that nothing is wrong with.
func addCash(t *testing.T, d *party.Directory, currency string) int {
	t.Helper()
	n, err := d.AddCash(currency)
	if err != nil {
		t.Fatalf("AddCash(%q) is %v", currency, err)
	}
	return n
}

// closes closes a party or an account that there is.
func closes(t *testing.T, d *party.Directory, who, account int) {
	t.Helper()
	if err := d.Close(who, account); err != nil {
		t.Fatalf("Close(%d, %d) is %v", who, account, err)
	}
}

// counts checks how many there are.
func counts(t *testing.T, d *party.Directory, parties, accounts, assets int) {
	t.Helper()
	if a, b, c := d.Counts(); a != parties || b != accounts || c != assets {
		t.Errorf("Counts is %d, %d, %d; want %d, %d, %d", a, b, c, parties, accounts, assets)
	}
}

// texts are many that are names of nothing.
func texts() []string {
	return []string{"", " ", "A", "a", "\x00", "\xff\xfe", "\u00e9", "EUR\x00", "D1 ", strings.Repeat("A", 35), strings.Repeat("\n", 1000)}
}

// numbers are many that are numbers of nothing, if there are n.
func numbers(n int) []int {
	return []int{math.MinInt, -65536, -2, -1, n, n + 1, 65535 + n, 1 << 40, math.MaxInt}
}

// P13.1

func TestNew(t *testing.T) {
	d := party.New()
	counts(t, d, 0, 0, 0)
	for _, bic := range []string{deut, deut + "XXX", bnp} {
		n, err := d.Party(bic)
		answers(t, bic, n, err, 0, api.ErrLost)
	}
	n, err := d.Party("")
	answers(t, "Party of an empty text", n, err, 0, api.ErrForm)
	for _, s := range append(texts(), "D1", "EUR", share, "\x00\x00\x00\x00\x00\x00\x00\x00\x00\x00\x00\x00") {
		n, err := d.Account(s)
		answers(t, "Account "+s, n, err, 0, api.ErrLost)
		n, err = d.Asset(s)
		answers(t, "Asset "+s, n, err, 0, api.ErrLost)
	}
	noNumbers(t, d)
	if l, err := d.Legs(trade()); len(l) != 0 || !tells(err, api.ErrAccount) {
		t.Errorf("Legs is %v, %v", l, err)
	}
	counts(t, d, 0, 0, 0)
}

// noNumbers checks that nothing has a number that is none.
func noNumbers(t *testing.T, d *party.Directory) {
	t.Helper()
	parties, accounts, assets := d.Counts()
	for _, n := range numbers(assets) {
		if s, err := d.Security(n); s != (api.Security{}) || !tells(err, api.ErrAsset) {
			t.Errorf("Security(%d) is %+v, %v", n, s, err)
		}
	}
	for _, n := range numbers(accounts) {
		got, err := d.Owner(n)
		answers(t, "Owner", got, err, 0, api.ErrAccount)
		if n != -1 && !tells(d.Close(-1, n), api.ErrLost) {
			t.Errorf("Close(-1, %d) isn't ErrLost", n)
		}
	}
	for _, n := range numbers(parties) {
		got, err := d.CashOf(n)
		answers(t, "CashOf", got, err, 0, api.ErrLost)
		got, err = d.AddAccount(securities("Z9", n))
		answers(t, "AddAccount", got, err, 0, api.ErrLost)
		if n != -1 && !tells(d.Close(n, -1), api.ErrLost) {
			t.Errorf("Close(%d, -1) isn't ErrLost", n)
		}
	}
}

func TestNewIsApart(t *testing.T) {
	a, b := party.New(), party.New()
	addParty(t, a, deut)
	addAccount(t, a, cash("D1", 0))
	addCash(t, a, "EUR")
	addSecurity(t, a, equity(share))
	counts(t, a, 1, 1, 2)
	counts(t, b, 0, 0, 0)
	n, err := b.Party(deut)
	answers(t, "Party of another directory", n, err, 0, api.ErrLost)
	if n := addParty(t, b, deut); n != 0 {
		t.Errorf("its number is %d", n)
	}
	closes(t, b, 0, -1)
	if n := addAccount(t, a, securities("D2", 0)); n != 1 {
		t.Errorf("its number is %d", n)
	}
}

// P13.2

// noBics are texts that codes.Bic refuses.
func noBics() []string {
	return []string{"", "X", "DEUTDEF", "DEUTDEFF5", "DEUTDEFF50", "DEUTDEFF5000", "DEUT1EFF", "1EUTDEFF", "DEUTD1FF", "deutdeff", "DEUTDEFf", "DEUTDEFFxxx", "DEUTDEFFXX ", " DEUTDEF", "DEUTDE\x00F", "DEUTDE\u00e9", "DEUT DEFF", deut + "XXXXXX"}
}

func TestAddParty(t *testing.T) {
	d := party.New()
	for want, bic := range []string{deut, bnp, ubs, "DEUTDEFF500", "DEUTDEFF501", "DEUTDEF0", "DEUTDEFE", "DEUTDFFF", "EEUTDEFF", "DEUTDEFFXXY", "DEUTDEFFXX0", "AAAAAA00000", "ZZZZZZZZZZZ", "XXXXXXXX"} {
		n, err := d.AddParty(api.Party{Bic: bic, Name: "N"})
		answers(t, bic, n, err, want, api.OK)
		counts(t, d, want+1, 0, 0)
	}
}

func TestAddPartyForm(t *testing.T) {
	d := party.New()
	for _, bic := range noBics() {
		n, err := d.AddParty(api.Party{Bic: bic, Name: "N"})
		answers(t, bic, n, err, 0, api.ErrForm)
	}
	counts(t, d, 0, 0, 0)
	if n := addParty(t, d, deut); n != 0 {
		t.Errorf("its number is %d", n)
	}
}

func TestAddPartyName(t *testing.T) {
	for _, name := range []string{"N", "\x00", "\xff", " ", strings.Repeat("n", 2), strings.Repeat("n", 63), strings.Repeat("n", 64), strings.Repeat("\u00e9", 32), strings.Repeat("\xff", 64)} {
		n, err := party.New().AddParty(api.Party{Bic: deut, Name: name})
		answers(t, name, n, err, 0, api.OK)
	}
	d := party.New()
	for _, name := range []string{"", strings.Repeat("n", 65), strings.Repeat("\u00e9", 33), strings.Repeat("\x00", 65), strings.Repeat("n", 1<<20)} {
		n, err := d.AddParty(api.Party{Bic: deut, Name: name})
		answers(t, name, n, err, 0, api.ErrText)
	}
	counts(t, d, 0, 0, 0)
}

func TestAddPartyTwice(t *testing.T) {
	for _, x := range []struct {
		first, then string
		no          api.Errno
	}{
		{deut, deut, api.ErrTwice},
		{deut, deut + "XXX", api.ErrTwice},
		{deut + "XXX", deut, api.ErrTwice},
		{deut + "XXX", deut + "XXX", api.ErrTwice},
		{deut + "500", deut + "500", api.ErrTwice},
		{"XXXXXXXX", "XXXXXXXXXXX", api.ErrTwice},
		{deut, deut + "500", api.OK},
		{deut + "500", deut, api.OK},
		{deut + "500", deut + "XXX", api.OK},
		{deut + "XXX", deut + "XXY", api.OK},
		{deut + "500", deut + "501", api.OK},
		{deut, "DEUTDEF0", api.OK},
		{deut, bnp, api.OK},
	} {
		d := party.New()
		addParty(t, d, x.first)
		n, err := d.AddParty(api.Party{Bic: x.then, Name: "another"})
		if x.no != api.OK {
			answers(t, x.first+" and "+x.then, n, err, 0, x.no)
			counts(t, d, 1, 0, 0)
			continue
		}
		answers(t, x.first+" and "+x.then, n, err, 1, api.OK)
		counts(t, d, 2, 0, 0)
	}
}

func TestAddPartyOrder(t *testing.T) {
	d := party.New()
	addParty(t, d, deut)
	n, err := d.AddParty(api.Party{Bic: "DEUTDEFFX", Name: ""})
	answers(t, "no BIC, no name", n, err, 0, api.ErrForm)
	n, err = d.AddParty(api.Party{Bic: "DEUTDEFFX", Name: strings.Repeat("n", 65)})
	answers(t, "no BIC, a long name", n, err, 0, api.ErrForm)
	n, err = d.AddParty(api.Party{Bic: deut, Name: ""})
	answers(t, "no name, twice", n, err, 0, api.ErrText)
	n, err = d.AddParty(api.Party{Bic: deut + "XXX", Name: strings.Repeat("n", 65)})
	answers(t, "a long name, twice", n, err, 0, api.ErrText)
	counts(t, d, 1, 0, 0)
}

func TestAddPartySameName(t *testing.T) {
	d := party.New()
	addParty(t, d, deut)
	if n := addParty(t, d, bnp); n != 1 {
		t.Errorf("its number is %d", n)
	}
}

func TestAddPartyClosed(t *testing.T) {
	d := party.New()
	n, err := d.AddParty(api.Party{Bic: deut, Name: "D", Closed: true})
	answers(t, "a party put in closed", n, err, 0, api.OK)
	n, err = d.AddAccount(securities("D1", 0))
	answers(t, "an account of it", n, err, 0, api.ErrClosed)
	n, err = d.CashOf(0)
	answers(t, "its cash account", n, err, 0, api.ErrLost)
	n, err = d.AddParty(api.Party{Bic: deut, Name: "D"})
	answers(t, "once more", n, err, 0, api.ErrTwice)
	n, err = d.Party(deut)
	answers(t, "its number", n, err, 0, api.OK)
	closes(t, d, 0, -1)
}

// P13.3

func TestAddAccount(t *testing.T) {
	d := party.New()
	addParty(t, d, deut)
	addParty(t, d, bnp)
	for want, a := range []api.Account{
		securities("D1", 0), cash("D2", 0), securities("B1", 1), cash("B2", 1), {Id: "D3", Closed: true}, {Id: "D4", Closed: true, Cash: true},
		securities("0", 0), securities("A", 1), securities("Z9", 1), securities(strings.Repeat("A", 34), 0), securities(strings.Repeat("A", 33), 1), securities("EUR", 0), securities(share, 0), securities(deut, 1),
	} {
		n, err := d.AddAccount(a)
		answers(t, a.Id, n, err, want, api.OK)
		counts(t, d, 2, want+1, 0)
		n, err = d.Owner(want)
		answers(t, "the owner of "+a.Id, n, err, a.Party, api.OK)
	}
}

// noIds are texts that codes.Account refuses.
func noIds() []string {
	return []string{"", "a", "A-1", "D1 ", " D1", "D1\x00", "\xff", "\u00c9", strings.Repeat("A", 35), strings.Repeat("A", 1000)}
}

func TestAddAccountErrors(t *testing.T) {
	d := party.New()
	addParty(t, d, deut)
	addParty(t, d, bnp)
	addAccount(t, d, securities("D1", 0))
	closes(t, d, 1, -1)
	for _, id := range noIds() {
		for _, of := range []int{0, 1, 2, -1} { // ahead of every other error
			n, err := d.AddAccount(cash(id, of))
			answers(t, id, n, err, 0, api.ErrAccount)
		}
	}
	for _, of := range numbers(2) {
		for _, id := range []string{"D1", "D2"} { // ahead of ErrTwice
			n, err := d.AddAccount(cash(id, of))
			answers(t, id, n, err, 0, api.ErrLost)
		}
	}
	for _, id := range []string{"D1", "D2"} { // ahead of ErrTwice
		n, err := d.AddAccount(cash(id, 1))
		answers(t, id+" of a closed party", n, err, 0, api.ErrClosed)
	}
	for _, a := range []api.Account{securities("D1", 0), cash("D1", 0), {Id: "D1", Closed: true}} {
		n, err := d.AddAccount(a)
		answers(t, "D1 again", n, err, 0, api.ErrTwice)
	}
	counts(t, d, 2, 1, 0)
	n, err := d.CashOf(0)
	answers(t, "a cash account that was refused", n, err, 0, api.ErrLost)
}

func TestAddAccountTwiceOfAnother(t *testing.T) {
	d := party.New()
	addParty(t, d, deut)
	addParty(t, d, bnp)
	addAccount(t, d, securities("A", 0))
	n, err := d.AddAccount(securities("A", 1))
	answers(t, "the same id of another party", n, err, 0, api.ErrTwice)
	closes(t, d, -1, 0)
	n, err = d.AddAccount(securities("A", 1))
	answers(t, "the id of a closed account", n, err, 0, api.ErrTwice)
	closes(t, d, 0, -1)
	n, err = d.AddAccount(securities("A", 1))
	answers(t, "the id of a closed party's account", n, err, 0, api.ErrTwice)
	n, err = d.Owner(0)
	answers(t, "the owner of it", n, err, 0, api.OK)
	counts(t, d, 2, 1, 0)
}

// P13.4

func TestAddAssets(t *testing.T) {
	d := party.New()
	for want, s := range []api.Security{equity(share), bond(bayer), bill(gilt)} {
		if n := addSecurity(t, d, s); n != want {
			t.Errorf("the number of %+v is %d", s, n)
		}
		counts(t, d, 0, 0, want+1)
	}
	for i, currency := range []string{"EUR", "USD", "AAA", "ZZZ", "XXX"} {
		if n := addCash(t, d, currency); n != 3+i {
			t.Errorf("the number of %s is %d", currency, n)
		}
		counts(t, d, 0, 0, 4+i)
	}
	if n := addSecurity(t, d, equity("INE002A01018")); n != 8 {
		t.Errorf("its number is %d", n)
	}
}

func TestAddSecurityRefusedBelow(t *testing.T) {
	d := party.New()
	addSecurity(t, d, equity(share))
	turned := func(s api.Security, turn func(s *api.Security)) api.Security {
		turn(&s)
		return s
	}
	for i, x := range []struct {
		s    api.Security
		turn func(s *api.Security)
		no   api.Errno
	}{
		{equity(bayer), func(s *api.Security) { s.Kind = 0 }, api.ErrKind},
		{equity(bayer), func(s *api.Security) { s.Kind = 5 }, api.ErrKind},
		{equity(share), func(s *api.Security) { s.Kind = math.MinInt }, api.ErrKind},
		{equity(bayer), func(s *api.Security) { s.Code[11]++ }, api.ErrForm},
		{equity(bayer), func(s *api.Security) { s.Code = api.Isin{} }, api.ErrForm},
		{equity(bayer), func(s *api.Security) { s.Code[0] = 'd' }, api.ErrForm},
		{equity(bayer), func(s *api.Security) { s.Currency = "" }, api.ErrForm},
		{equity(share), func(s *api.Security) { s.Currency = "EURO" }, api.ErrForm},
		{equity(bayer), func(s *api.Security) { s.Currency = "E1R" }, api.ErrForm},
		{equity(share), func(s *api.Security) { s.Face = 1 }, api.ErrArg},
		{equity(bayer), func(s *api.Security) { s.End = 738000 }, api.ErrArg},
		{bond(bayer), func(s *api.Security) { s.Face = 0 }, api.ErrAmount},
		{bond(share), func(s *api.Security) { s.Face = -5 }, api.ErrAmount},
		{bond(bayer), func(s *api.Security) { s.Coupon = -1 }, api.ErrArg},
		{bond(bayer), func(s *api.Security) { s.Per = 3 }, api.ErrArg},
		{bond(bayer), func(s *api.Security) { s.Basis = 4 }, api.ErrArg},
		{bond(share), func(s *api.Security) { s.End = s.Start }, api.ErrDate},
		{bond(bayer), func(s *api.Security) { s.Start = 0 }, api.ErrDate},
		{bill(bayer), func(s *api.Security) { s.Coupon = 1 }, api.ErrArg},
		{bill(bayer), func(s *api.Security) { s.Face = 0 }, api.ErrAmount},
		{bill(bayer), func(s *api.Security) { s.End = math.MaxInt }, api.ErrDate},
		{api.Security{Kind: api.Cash, Currency: "EUR"}, func(s *api.Security) { s.Code = api.Isin([]byte(share)) }, api.ErrForm},
		{api.Security{Kind: api.Cash, Currency: "EUR"}, func(s *api.Security) { s.Currency = "eur" }, api.ErrForm},
		{api.Security{Kind: api.Cash, Currency: "EUR"}, func(s *api.Security) { s.Per = 1 }, api.ErrArg},
		{api.Security{Kind: api.Cash, Currency: "EUR"}, func(s *api.Security) {}, api.ErrKind},
		{api.Security{}, func(s *api.Security) {}, api.ErrKind},
	} {
		n, err := d.AddSecurity(turned(x.s, x.turn))
		answers(t, "security "+string(rune('A'+i)), n, err, 0, x.no)
	}
	counts(t, d, 0, 0, 1)
	n, err := d.Asset("EUR")
	answers(t, "cash that was refused", n, err, 0, api.ErrLost)
}

func TestAddSecurityTwice(t *testing.T) {
	d := party.New()
	addSecurity(t, d, equity(share))
	other := equity(share)
	other.Currency = "USD"
	for _, s := range []api.Security{equity(share), other, bond(share), bill(share)} {
		n, err := d.AddSecurity(s)
		answers(t, "a code that is there", n, err, 0, api.ErrTwice)
	}
	counts(t, d, 0, 0, 1)
	if s, err := d.Security(0); s != equity(share) || err != nil {
		t.Errorf("Security(0) is %+v, %v", s, err)
	}
}

func TestAddCashErrors(t *testing.T) {
	d := party.New()
	addCash(t, d, "EUR")
	for _, s := range []string{"", "E", "EU", "EURO", "eur", "Eur", "E1R", "EU ", "EU\x00", "\u20ac", share} {
		n, err := d.AddCash(s)
		answers(t, s, n, err, 0, api.ErrForm)
	}
	for range 2 {
		n, err := d.AddCash("EUR")
		answers(t, "EUR again", n, err, 0, api.ErrTwice)
	}
	counts(t, d, 0, 0, 1)
}

// A security's currency is no asset by that, and a currency takes no code away. (A code has twelve bytes and a currency three, so no text is both.)
func TestCurrencyAndCode(t *testing.T) {
	d := party.New()
	addSecurity(t, d, equity(share))
	n, err := d.Asset("EUR")
	answers(t, "the currency of a security", n, err, 0, api.ErrLost)
	if n := addCash(t, d, "EUR"); n != 1 {
		t.Errorf("its number is %d", n)
	}
	addAccountOf(t, d, "EUR", share)
	n, err = d.Asset("EUR")
	answers(t, "the currency", n, err, 1, api.OK)
	n, err = d.Asset(share)
	answers(t, "the security", n, err, 0, api.OK)
	if n := addSecurity(t, d, equity(bayer)); n != 2 {
		t.Errorf("its number is %d", n)
	}
	n, err = d.Account("EUR")
	answers(t, "the account of that text", n, err, 0, api.OK)
	n, err = d.Account(bayer)
	answers(t, "an account of a security's text", n, err, 0, api.ErrLost)
}

// addAccountOf puts accounts of these texts in, of a new party.
func addAccountOf(t *testing.T, d *party.Directory, ids ...string) {
	t.Helper()
	p := addParty(t, d, deut)
	for _, id := range ids {
		addAccount(t, d, securities(id, p))
	}
}

// P13.5

func TestFound(t *testing.T) {
	d := example(t)
	for _, x := range []struct {
		f    func(string) (int, error)
		name string
		want int
		no   api.Errno
	}{
		{d.Party, deut, 0, 0}, {d.Party, deut + "XXX", 0, 0}, {d.Party, bnp, 1, 0}, {d.Party, bnp + "XXX", 1, 0},
		{d.Party, deut + "500", 0, api.ErrLost}, {d.Party, ubs, 0, api.ErrLost}, {d.Party, "BNPAFRP0", 0, api.ErrLost}, {d.Party, "BNPAFRPPXXY", 0, api.ErrLost},
		{d.Account, "D1", 0, 0}, {d.Account, "D2", 1, 0}, {d.Account, "B1", 2, 0}, {d.Account, "B2", 3, 0},
		{d.Account, "B3", 0, api.ErrLost}, {d.Account, "b2", 0, api.ErrLost}, {d.Account, "B", 0, api.ErrLost}, {d.Account, "B22", 0, api.ErrLost}, {d.Account, "EUR", 0, api.ErrLost}, {d.Account, deut, 0, api.ErrLost},
		{d.Asset, "EUR", 0, 0}, {d.Asset, share, 1, 0},
		{d.Asset, "USD", 0, api.ErrLost}, {d.Asset, "eur", 0, api.ErrLost}, {d.Asset, bayer, 0, api.ErrLost}, {d.Asset, "US0378331004", 0, api.ErrLost}, {d.Asset, "US037833100", 0, api.ErrLost}, {d.Asset, "D1", 0, api.ErrLost},
	} {
		n, err := x.f(x.name)
		answers(t, x.name, n, err, x.want, x.no)
	}
	for _, bic := range noBics() {
		n, err := d.Party(bic)
		answers(t, bic, n, err, 0, api.ErrForm)
	}
	for _, s := range texts() {
		n, err := d.Account(s)
		answers(t, "account "+s, n, err, 0, api.ErrLost)
		n, err = d.Asset(s)
		answers(t, "asset "+s, n, err, 0, api.ErrLost)
	}
	counts(t, d, 2, 4, 2)
}

// The head office may be put in by either of its texts, and be asked for by either.
func TestFoundByEitherBic(t *testing.T) {
	for _, in := range []string{deut, deut + "XXX"} {
		d := party.New()
		addParty(t, d, bnp)
		addParty(t, d, in)
		for _, bic := range []string{deut, deut + "XXX"} {
			n, err := d.Party(bic)
			answers(t, bic, n, err, 1, api.OK)
		}
	}
}

// Every text of three capitals leads to its own currency.
func TestFoundEveryCurrency(t *testing.T) {
	d := party.New()
	var all []string
	for i := range 26 * 26 * 26 {
		all = append(all, string([]byte{'A' + byte(i/676), 'A' + byte(i/26%26), 'A' + byte(i%26)}))
	}
	for want, s := range all {
		if n := addCash(t, d, s); n != want {
			t.Fatalf("the number of %s is %d", s, n)
		}
	}
	for want, s := range all {
		n, err := d.Asset(s)
		answers(t, s, n, err, want, api.OK)
		if got, err := d.Security(want); got != (api.Security{Kind: api.Cash, Currency: s}) || err != nil {
			t.Fatalf("Security(%d) is %+v, %v", want, got, err)
		}
	}
}

// P13.6

func TestSecurity(t *testing.T) {
	d := party.New()
	want := []api.Security{equity(share), {Kind: api.Cash, Currency: "EUR"}, bond(bayer), bill(gilt), {Kind: api.Cash, Currency: "JPY"}}
	for _, s := range want {
		if s.Kind == api.Cash {
			addCash(t, d, s.Currency)
			continue
		}
		addSecurity(t, d, s)
	}
	for range 2 {
		for n, s := range want {
			if got, err := d.Security(n); got != s || err != nil {
				t.Errorf("Security(%d) is %+v, %v; want %+v", n, got, err, s)
			}
		}
	}
	noNumbers(t, d)
}

func TestOwner(t *testing.T) {
	d := example(t)
	check := func() {
		t.Helper()
		for n, want := range []int{0, 0, 1, 1} {
			got, err := d.Owner(n)
			answers(t, "Owner", got, err, want, api.OK)
		}
		noNumbers(t, d)
	}
	check()
	closes(t, d, -1, 1)
	closes(t, d, 1, -1)
	check()
}

// P13.7

func TestCashOf(t *testing.T) {
	d := party.New()
	for _, bic := range []string{deut, bnp, ubs} {
		addParty(t, d, bic)
	}
	is := func(of, want int, no api.Errno) {
		t.Helper()
		n, err := d.CashOf(of)
		answers(t, "CashOf", n, err, want, no)
	}
	is(0, 0, api.ErrLost)
	addAccount(t, d, securities("D0", 0))
	is(0, 0, api.ErrLost) // one for securities is none
	addAccount(t, d, api.Account{Id: "D1", Cash: true, Closed: true})
	is(0, 0, api.ErrLost) // one that was put in closed is none
	addAccount(t, d, cash("B2", 1))
	is(0, 0, api.ErrLost) // another party's is none
	is(1, 2, api.OK)
	addAccount(t, d, cash("D3", 0))
	is(0, 3, api.OK)
	addAccount(t, d, securities("D4", 0))
	is(0, 3, api.OK)
	addAccount(t, d, cash("D5", 0))
	is(0, 0, api.ErrTwice)
	addAccount(t, d, cash("D6", 0))
	is(0, 0, api.ErrTwice)
	closes(t, d, -1, 3)
	is(0, 0, api.ErrTwice)
	closes(t, d, -1, 0)
	is(0, 0, api.ErrTwice)
	closes(t, d, -1, 6)
	is(0, 5, api.OK)
	closes(t, d, -1, 6)
	is(0, 5, api.OK)
	closes(t, d, -1, 5)
	is(0, 0, api.ErrLost)
	addAccount(t, d, cash("D7", 0))
	is(0, 7, api.OK)
	closes(t, d, 0, -1)
	is(0, 0, api.ErrLost)
	is(1, 2, api.OK) // closing touches that party alone
	is(2, 0, api.ErrLost)
	noNumbers(t, d)
}

// P13.8

func TestCloseErrors(t *testing.T) {
	d := example(t)
	for _, x := range []struct {
		who, account int
		no           api.Errno
	}{
		{-1, -1, api.ErrArg}, {0, 0, api.ErrArg}, {1, 3, api.ErrArg}, {0, 9, api.ErrArg}, {9, 0, api.ErrArg}, {-2, 0, api.ErrArg}, {0, -2, api.ErrArg}, {-2, -2, api.ErrArg}, {9, 9, api.ErrArg}, {math.MinInt, math.MaxInt, api.ErrArg},
		{-2, -1, api.ErrLost}, {2, -1, api.ErrLost}, {3, -1, api.ErrLost}, {math.MinInt, -1, api.ErrLost}, {math.MaxInt, -1, api.ErrLost},
		{-1, -2, api.ErrLost}, {-1, 4, api.ErrLost}, {-1, 5, api.ErrLost}, {-1, math.MinInt, api.ErrLost}, {-1, math.MaxInt, api.ErrLost},
	} {
		if err := d.Close(x.who, x.account); !tells(err, x.no) {
			t.Errorf("Close(%d, %d) is %v; want %v", x.who, x.account, err, x.no)
		}
	}
	nothingClosed(t, d)
}

// nothingClosed checks that in the example all is open.
func nothingClosed(t *testing.T, d *party.Directory) {
	t.Helper()
	if l, err := d.Legs(trade()); !slices.Equal(l, moved()) || err != nil {
		t.Errorf("Legs is %v, %v", l, err)
	}
	for of, want := range []int{1, 3} {
		n, err := d.CashOf(of)
		answers(t, "CashOf", n, err, want, api.OK)
		n, err = d.AddAccount(securities("D1", of))
		answers(t, "an account of an open party", n, err, 0, api.ErrTwice)
	}
}

func TestCloseAccount(t *testing.T) {
	d := example(t)
	for range 2 { // it may be closed already
		closes(t, d, -1, 1)
		n, err := d.CashOf(0)
		answers(t, "a closed cash account", n, err, 0, api.ErrLost)
		n, err = d.CashOf(1)
		answers(t, "another cash account", n, err, 3, api.OK)
		n, err = d.AddAccount(securities("D1", 0))
		answers(t, "the party of it", n, err, 0, api.ErrTwice)
	}
	free := trade()
	free.Pay, free.Amount, free.Currency = false, 0, ""
	if l, err := d.Legs(free); !slices.Equal(l, moved()[:1]) || err != nil {
		t.Errorf("Legs is %v, %v", l, err)
	}
	for range 2 {
		closes(t, d, -1, 0)
		if l, err := d.Legs(free); len(l) != 0 || !tells(err, api.ErrClosed) {
			t.Errorf("Legs is %v, %v", l, err)
		}
	}
	n, err := d.Account("D1")
	answers(t, "the closed account", n, err, 0, api.OK)
	counts(t, d, 2, 4, 2)
}

func TestCloseParty(t *testing.T) {
	d := example(t)
	for range 2 { // it may be closed already
		closes(t, d, 1, -1)
		n, err := d.CashOf(1)
		answers(t, "a closed party's cash account", n, err, 0, api.ErrLost)
		n, err = d.CashOf(0)
		answers(t, "another cash account", n, err, 1, api.OK)
		n, err = d.AddAccount(securities("B9", 1))
		answers(t, "a new account", n, err, 0, api.ErrClosed)
		if l, err := d.Legs(trade()); len(l) != 0 || !tells(err, api.ErrClosed) {
			t.Errorf("Legs is %v, %v", l, err)
		}
	}
	closes(t, d, -1, 3)
	n, err := d.Party(bnp)
	answers(t, "the closed party", n, err, 1, api.OK)
	counts(t, d, 2, 4, 2)
}

// P13.9: Counts stands behind each of the others' tests. Here each kind is counted by itself.
func TestCounts(t *testing.T) {
	d := party.New()
	counts(t, d, 0, 0, 0)
	addParty(t, d, deut)
	counts(t, d, 1, 0, 0)
	addAccount(t, d, securities("D1", 0))
	addAccount(t, d, cash("D2", 0))
	counts(t, d, 1, 2, 0)
	addSecurity(t, d, equity(share))
	addCash(t, d, "EUR")
	addCash(t, d, "USD")
	counts(t, d, 1, 2, 3)
	closes(t, d, -1, 0)
	closes(t, d, 0, -1)
	counts(t, d, 1, 2, 3)
}

// isinOf is the code of a number: all heads of nine digits behind XS.
func isinOf(t *testing.T, n int) string {
	t.Helper()
	digits := []byte("XS000000000")
	for at := len(digits) - 1; n > 0; at-- {
		digits[at] = '0' + byte(n%10)
		n /= 10
	}
	last, err := codes.IsinDigit(string(digits))
	if err != nil {
		t.Fatal(err)
	}
	return string(append(digits, last))
}
