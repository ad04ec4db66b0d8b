package party_test

import (
	"strconv"
	"testing"

	"custody/api"
	"custody/party"
)

// bicOf is the BIC of a number: four capitals behind one another, of one country and place.
func bicOf(n int) string {
	b := []byte("AAAADEFF")
	for at := 3; n > 0; at-- {
		b[at] = 'A' + byte(n%26)
		n /= 26
	}
	return string(b)
}

func idOf(n int) string { return "A" + strconv.Itoa(n) }

func TestManyParties(t *testing.T) {
	d := party.New()
	for want := range api.MaxAccounts {
		if n := addParty(t, d, bicOf(want)); n != want {
			t.Fatalf("party %d has the number %d", want, n)
		}
	}
	for range 2 {
		n, err := d.AddParty(api.Party{Bic: bicOf(api.MaxAccounts), Name: "N"})
		answers(t, "one more", n, err, 0, api.ErrMany)
	}
	for _, x := range []struct {
		bic, name string
		no        api.Errno
	}{{"X", "N", api.ErrForm}, {bicOf(api.MaxAccounts), "", api.ErrText}, {bicOf(0), "N", api.ErrTwice}, {bicOf(65535) + "XXX", "N", api.ErrTwice}, {bicOf(0) + "500", "N", api.ErrMany}} {
		n, err := d.AddParty(api.Party{Bic: x.bic, Name: x.name})
		answers(t, x.bic+" of many", n, err, 0, x.no)
	}
	counts(t, d, api.MaxAccounts, 0, 0)
	for want := range api.MaxAccounts {
		if n, err := d.Party(bicOf(want)); n != want || err != nil {
			t.Fatalf("party %d is found at %d, %v", want, n, err)
		}
	}
	n, err := d.Party(bicOf(api.MaxAccounts))
	answers(t, "what was refused", n, err, 0, api.ErrLost)
	closes(t, d, api.MaxAccounts-1, -1)
	if n := addAccount(t, d, cash("A", api.MaxAccounts-2)); n != 0 { // the others have room
		t.Errorf("its number is %d", n)
	}
	addCash(t, d, "EUR")
	noNumbers(t, d)
}

func TestManyAccounts(t *testing.T) {
	d := party.New()
	addParty(t, d, deut)
	addParty(t, d, bnp)
	for want := range api.MaxAccounts {
		if n := addAccount(t, d, api.Account{Id: idOf(want), Party: want & 1, Cash: want%3 == 0, Closed: want > 10}); n != want {
			t.Fatalf("account %d has the number %d", want, n)
		}
	}
	closes(t, d, 1, -1)
	for _, x := range []struct {
		a  api.Account
		no api.Errno
	}{
		{securities(idOf(api.MaxAccounts), 0), api.ErrMany}, {cash("B", 0), api.ErrMany}, {securities("", 0), api.ErrAccount},
		{securities("B", 2), api.ErrLost}, {securities("B", 1), api.ErrClosed}, {securities(idOf(65535), 0), api.ErrTwice},
	} {
		n, err := d.AddAccount(x.a)
		answers(t, x.a.Id+" of many", n, err, 0, x.no)
	}
	counts(t, d, 2, api.MaxAccounts, 0)
	for want := range api.MaxAccounts {
		if n, err := d.Account(idOf(want)); n != want || err != nil {
			t.Fatalf("account %d is found at %d, %v", want, n, err)
		}
		if p, err := d.Owner(want); p != want&1 || err != nil {
			t.Fatalf("the owner of account %d is %d, %v", want, p, err)
		}
	}
	n, err := d.CashOf(0)
	answers(t, "open cash accounts of many", n, err, 0, api.ErrTwice)
	closes(t, d, -1, 0)
	n, err = d.CashOf(0)
	answers(t, "the open cash account of many", n, err, 6, api.OK)
	addParty(t, d, ubs) // the others have room
	noNumbers(t, d)
}

// addMany puts as many assets in as there may be: currencies at every fifth place, as long as there are some.
func addMany(t *testing.T, d *party.Directory) {
	t.Helper()
	for want := range api.MaxAssets {
		n := -1
		if want%5 == 4 {
			i := want / 5
			n = addCash(t, d, string([]byte{'A' + byte(i/676), 'A' + byte(i/26%26), 'A' + byte(i%26)}))
		} else {
			n = addSecurity(t, d, equity(isinOf(t, want)))
		}
		if n != want {
			t.Fatalf("asset %d has the number %d", want, n)
		}
	}
}

func TestManyAssets(t *testing.T) {
	d := party.New()
	addMany(t, d)
	for range 2 {
		n, err := d.AddCash("ZZZ")
		answers(t, "one more currency", n, err, 0, api.ErrMany)
		n, err = d.AddSecurity(equity(share))
		answers(t, "one more security", n, err, 0, api.ErrMany)
	}
	n, err := d.AddCash("AAA")
	answers(t, "a currency that is there", n, err, 0, api.ErrTwice)
	n, err = d.AddCash("A")
	answers(t, "no currency", n, err, 0, api.ErrForm)
	n, err = d.AddSecurity(bond(isinOf(t, 65535)))
	answers(t, "a security that is there", n, err, 0, api.ErrTwice)
	n, err = d.AddSecurity(api.Security{Kind: api.Cash, Currency: "ZZZ"})
	answers(t, "cash", n, err, 0, api.ErrKind)
	counts(t, d, 0, 0, api.MaxAssets)
	for want := range api.MaxAssets {
		if want%5 == 4 {
			continue
		}
		if n, err := d.Asset(isinOf(t, want)); n != want || err != nil {
			t.Fatalf("asset %d is found at %d, %v", want, n, err)
		}
	}
	addParty(t, d, deut) // the others have room
	noNumbers(t, d)
}

// The last place may be a currency's or a security's.
func TestTheLastAsset(t *testing.T) {
	for _, last := range []func(d *party.Directory) (int, error){
		func(d *party.Directory) (int, error) { return d.AddCash("EUR") },
		func(d *party.Directory) (int, error) { return d.AddSecurity(bond(share)) },
	} {
		d := party.New()
		for want := range api.MaxAssets - 1 {
			addSecurity(t, d, equity(isinOf(t, want)))
		}
		n, err := last(d)
		answers(t, "the last one", n, err, api.MaxAssets-1, api.OK)
		n, err = d.AddCash("USD")
		answers(t, "one past it", n, err, 0, api.ErrMany)
		n, err = d.AddSecurity(bond(bayer))
		answers(t, "one past it", n, err, 0, api.ErrMany)
	}
}

// The greatest numbers that there may be stand in legs too.
func TestLegsOfTheLast(t *testing.T) {
	d := party.New()
	addParty(t, d, deut)
	addParty(t, d, bnp)
	for n := range api.MaxAccounts - 4 {
		addAccount(t, d, securities(idOf(n), n&1))
	}
	for _, a := range []api.Account{securities("D1", 0), cash("D2", 0), securities("B1", 1), cash("B2", 1)} {
		addAccount(t, d, a)
	}
	for n := range api.MaxAssets - 2 {
		addSecurity(t, d, equity(isinOf(t, n)))
	}
	addCash(t, d, "EUR")
	addSecurity(t, d, equity(share))
	comes(t, d, []api.Leg{{From: 65532, To: 65534, Asset: 65535, Qty: 10}, {From: 65535, To: 65533, Asset: 65534, Qty: 500}})
}
