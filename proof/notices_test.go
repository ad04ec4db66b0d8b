package proof_test

import (
	"reflect"
	"testing"

	"custody/api"
	"custody/proof"
)

func aNotice() api.Notice {
	return api.Notice{
		Ref: "A", Prev: "B", Trade: 1, Settle: 2, Code: api.Isin{3}, Qty: 4, Account: "C", Agent: "D", Other: "E", Amount: 5, Currency: "F", Priority: 6,
		Links: []api.Link{{Kind: 1, Ref: "G"}, {Kind: 2, Ref: "H"}},
	}
}

func TestSameNotice(t *testing.T) {
	if !proof.SameNotice(aNotice(), aNotice()) || !proof.SameNotice(api.Notice{}, api.Notice{Links: []api.Link{}}) {
		t.Error("the same are not the same")
	}
	turns := []func(n *api.Notice){
		func(n *api.Notice) { n.Ref += "x" },
		func(n *api.Notice) { n.Prev += "x" },
		func(n *api.Notice) { n.Cancel = true },
		func(n *api.Notice) { n.Receive = true },
		func(n *api.Notice) { n.Pay = true },
		func(n *api.Notice) { n.Trade++ },
		func(n *api.Notice) { n.Settle++ },
		func(n *api.Notice) { n.Code[11]++ },
		func(n *api.Notice) { n.Qty++ },
		func(n *api.Notice) { n.Account += "x" },
		func(n *api.Notice) { n.Agent += "x" },
		func(n *api.Notice) { n.Other += "x" },
		func(n *api.Notice) { n.Amount++ },
		func(n *api.Notice) { n.Currency += "x" },
		func(n *api.Notice) { n.Priority++ },
		func(n *api.Notice) { n.Links[1].Ref += "x" },
	}
	if fields := reflect.TypeFor[api.Notice]().NumField(); len(turns) != fields {
		t.Errorf("%d turns of %d fields", len(turns), fields)
	}
	turns = append(turns, func(n *api.Notice) { n.Links = n.Links[:1] }, func(n *api.Notice) { n.Links[0].Kind++ })
	for at, turn := range turns {
		n := aNotice()
		if turn(&n); proof.SameNotice(n, aNotice()) || proof.SameNotice(aNotice(), n) {
			t.Errorf("turn %d isn't seen", at)
		}
	}
}

func TestRoomAndSpoilOfNotices(t *testing.T) {
	n := aNotice()
	roomy := proof.RoomyNotice(n)
	if !proof.SameNotice(roomy, n) || cap(roomy.Links) == len(n.Links) {
		t.Errorf("with room it is %+v", roomy)
	}
	proof.SpoilNotice(roomy)
	for at, link := range proof.Whole(roomy.Links) {
		if link.Kind > 0 {
			t.Errorf("link %d is still %v", at, link)
		}
	}
	if !proof.SameNotice(n, aNotice()) {
		t.Errorf("the first became %+v", n)
	}
}
