package party_test

import (
	"slices"
	"strings"
	"testing"
	"unsafe"

	"custody/api"
	"custody/party"
	"custody/proof"
)

// What Legs is handed is not changed, its spare room included.
func TestLegsLeavesTheNotice(t *testing.T) {
	d := example(t)
	junk := api.Link{Kind: 77, Ref: "junk"}
	for _, links := range [][]api.Link{nil, {}, {{Kind: api.With, Ref: "N7"}}, {{Kind: api.After, Ref: "N8"}, {Kind: 9}}} {
		n := trade()
		n.Links = proof.Room(links, junk)
		all := slices.Clone(proof.Whole(n.Links))
		m := n
		d.Legs(n)
		if !slices.Equal(proof.Whole(n.Links), all) || len(n.Links) != len(links) || !proof.SameNotice(n, m) {
			t.Errorf("the notice became %+v", n)
		}
	}
}

// R3: no links and an empty list of them are the same.
func TestNoLinks(t *testing.T) {
	d := example(t)
	for _, links := range [][]api.Link{nil, {}, make([]api.Link, 0, 5)} {
		n := trade()
		n.Links = links
		if l, err := d.Legs(n); !slices.Equal(l, moved()) || err != nil {
			t.Errorf("Legs is %v, %v", l, err)
		}
	}
}

// Legs are new memory, their spare room included: who is given them may do with them what he likes.
func TestLegsAreNew(t *testing.T) {
	d := example(t)
	a, _ := d.Legs(trade())
	b, _ := d.Legs(trade())
	for _, l := range [][]api.Leg{a, a[:1]} {
		whole := proof.Whole(l)
		for i := range whole {
			whole[i] = api.Leg{From: 7, To: 7, Asset: 7, Qty: 7, Name: 7}
		}
		_ = append(l, api.Leg{Name: 8})
	}
	if !slices.Equal(b, moved()) {
		t.Errorf("another answer became %v", b)
	}
	if c, err := d.Legs(trade()); !slices.Equal(c, moved()) || err != nil {
		t.Errorf("Legs became %v, %v", c, err)
	}
}

// view is a text over bytes that are changed later: what a text would be that is kept without a copy.
func view(s string) (string, []byte) {
	b := []byte(s)
	return unsafe.String(&b[0], len(b)), b
}

// A name is kept as a copy: what stood in the text when it was put in is found, not what stands there later.
func TestNamesAreCopies(t *testing.T) {
	d := party.New()
	bic, bicBytes := view(deut)
	addParty(t, d, bic)
	id, idBytes := view("D1")
	addAccount(t, d, securities(id, 0))
	euro, euroBytes := view("EUR")
	addCash(t, d, euro)
	s := equity(share)
	dollar, dollarBytes := view("USD")
	s.Currency = dollar
	addSecurity(t, d, s)
	for _, b := range [][]byte{bicBytes, idBytes, euroBytes, dollarBytes} {
		for i := range b {
			b[i] = 'Q'
		}
	}
	n, err := d.Party(deut)
	answers(t, "the party", n, err, 0, api.OK)
	n, err = d.Account("D1")
	answers(t, "the account", n, err, 0, api.OK)
	n, err = d.Asset("EUR")
	answers(t, "the currency", n, err, 0, api.OK)
	for n, want := range []string{"EUR", "USD"} {
		if s, err := d.Security(n); s.Currency != want || err != nil {
			t.Errorf("Security(%d) is %+v, %v", n, s, err)
		}
	}
}

// The text in an answer is new memory.
func TestSecurityIsNew(t *testing.T) {
	d := party.New()
	euro := strings.Clone("EUR")
	addCash(t, d, euro)
	s := equity(share)
	s.Currency = euro
	addSecurity(t, d, s)
	at := []*byte{unsafe.StringData(euro)}
	for _, n := range []int{0, 1, 0, 1} {
		s, err := d.Security(n)
		if err != nil || slices.Contains(at, unsafe.StringData(s.Currency)) {
			t.Errorf("Security(%d) shares its text, or is %v", n, err)
		}
		at = append(at, unsafe.StringData(s.Currency))
	}
}

// A security is handed out as a value: to change it changes nothing in the directory.
func TestSecurityIsAValue(t *testing.T) {
	d := example(t)
	s, _ := d.Security(1)
	s.Code[0], s.Kind, s.Currency = 'X', api.Bond, "USD"
	if got, err := d.Security(1); got != equity(share) || err != nil {
		t.Errorf("Security(1) became %+v, %v", got, err)
	}
	n, err := d.Asset(share)
	answers(t, "its number", n, err, 1, api.OK)
}
