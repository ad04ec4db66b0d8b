package proof_test

import (
	"slices"
	"testing"

	"custody/api"
	"custody/proof"
)

func anOp() api.Op {
	return api.Op{Code: 1, Account: 2, Asset: 3, Qty: 4, Name: 5, Id: 6, Legs: []api.Leg{proof.Leg(1, 2, 3, 4, 5)}, Pairs: proof.Keys(7, 8, 9, 10)}
}

func aCell() api.Cell {
	return api.Cell{Position: proof.Position(5, 3, 1, 7, 2), Record: api.Record{Status: 1, Legs: anOp().Legs}}
}

func TestMadeOps(t *testing.T) {
	for n, x := range [][2]api.Op{
		{proof.Held(1, 2, 3, 4), {Code: 1, Account: 2, Asset: 3, Qty: 4}},
		{proof.Marked(3, 2, 3, 4, 5), {Code: 3, Account: 2, Asset: 3, Qty: 4, Name: 5}},
		{proof.Identified(6, 9), {Code: 6, Id: 9}},
		{proof.Submit(9), {Code: 5, Id: 9}},
		{proof.Submit(9, proof.Leg(1, 2, 3, 4, 5)), {Code: 5, Id: 9, Legs: []api.Leg{{From: 1, To: 2, Asset: 3, Qty: 4, Name: 5}}}},
		{proof.Snapshot(), {Code: 8}},
		{proof.Snapshot(1, 2, 3, 4), {Code: 8, Pairs: []api.Key{{Account: 1, Asset: 2}, {Account: 3, Asset: 4}}}},
	} {
		if !proof.SameOp(x[0], x[1]) {
			t.Errorf("%d: %+v is not %+v", n, x[0], x[1])
		}
	}
	if p := proof.Position(5, 3, 1); p.Avail != 5 || !slices.Equal(p.Marks, []api.Mark{{Name: 3, Qty: 1}}) {
		t.Errorf("a position is %v", p)
	}
}

func TestSameOp(t *testing.T) {
	if !proof.SameOp(anOp(), anOp()) || !proof.SameOp(api.Op{}, api.Op{Legs: []api.Leg{}, Pairs: []api.Key{}}) {
		t.Error("the same are not the same")
	}
	for n, turn := range []func(o *api.Op){
		func(o *api.Op) { o.Code++ },
		func(o *api.Op) { o.Account++ },
		func(o *api.Op) { o.Asset++ },
		func(o *api.Op) { o.Qty++ },
		func(o *api.Op) { o.Name++ },
		func(o *api.Op) { o.Id++ },
		func(o *api.Op) { o.Legs[0].Name++ },
		func(o *api.Op) { o.Legs = nil },
		func(o *api.Op) { o.Pairs[1].Asset++ },
		func(o *api.Op) { o.Pairs = o.Pairs[:1] },
	} {
		o := anOp()
		if turn(&o); proof.SameOp(o, anOp()) {
			t.Errorf("turn %d isn't seen", n)
		}
	}
}

func TestSameCell(t *testing.T) {
	empty := api.Cell{Position: api.Position{Marks: []api.Mark{}}, Record: api.Record{Legs: []api.Leg{}}}
	if !proof.SameCell(aCell(), aCell()) || !proof.SameCell(api.Cell{}, empty) {
		t.Error("the same are not the same")
	}
	for n, turn := range []func(c *api.Cell){
		func(c *api.Cell) { c.Position.Avail++ },
		func(c *api.Cell) { c.Position.Marks[1].Qty++ },
		func(c *api.Cell) { c.Position.Marks = c.Position.Marks[:1] },
		func(c *api.Cell) { c.Record.Status++ },
		func(c *api.Cell) { c.Record.Legs[0].Qty++ },
		func(c *api.Cell) { c.Record.Legs = nil },
	} {
		c := aCell()
		if turn(&c); proof.SameCell(c, aCell()) {
			t.Errorf("turn %d isn't seen", n)
		}
	}
}

func TestSameAnswer(t *testing.T) {
	of := func() api.Answer { return api.Answer{Err: 1, Status: 2, Positions: []api.Position{{Avail: 3}}} }
	if !proof.SameAnswer(of(), of()) || !proof.SameAnswer(api.Answer{}, api.Answer{Positions: []api.Position{}}) {
		t.Error("the same are not the same")
	}
	for n, turn := range []func(a *api.Answer){
		func(a *api.Answer) { a.Err++ },
		func(a *api.Answer) { a.Status++ },
		func(a *api.Answer) { a.Positions[0].Avail++ },
		func(a *api.Answer) { a.Positions = nil },
	} {
		a := of()
		if turn(&a); proof.SameAnswer(a, of()) {
			t.Errorf("turn %d isn't seen", n)
		}
	}
}

func TestRoomyAndSpoiled(t *testing.T) {
	o, of := anOp(), anOp()
	roomy := proof.RoomyOp(o)
	if !proof.SameOp(roomy, of) || cap(roomy.Legs) < 4 || cap(roomy.Pairs) < 5 {
		t.Errorf("RoomyOp is %+v", roomy)
	}
	spare := roomy.Legs[:2][1]
	if proof.SpoilOp(roomy); proof.SameOp(roomy, of) || spare == (api.Leg{}) || !proof.SameOp(o, of) {
		t.Errorf("SpoilOp left %+v, and %+v", roomy, o)
	}
	c := aCell()
	wide := proof.RoomyCell(c)
	if !proof.SameCell(wide, aCell()) || cap(wide.Position.Marks) < 5 || cap(wide.Record.Legs) < 4 {
		t.Errorf("RoomyCell is %+v", wide)
	}
	if proof.SpoilCell(wide); proof.SamePosition(wide.Position, c.Position) || proof.SameRecord(wide.Record, c.Record) || !proof.SameCell(c, aCell()) {
		t.Errorf("SpoilCell left %+v, and %+v", wide, c)
	}
	keys := proof.Keys(1, 2, 3, 4)
	if proof.SpoilKeys(keys[:1]); keys[0] != keys[1] || keys[0].Account == 1 {
		t.Errorf("SpoilKeys left %v", keys)
	}
}

func TestJudge(t *testing.T) {
	c := api.Config{Accounts: 3, Assets: 2}
	for _, x := range []struct {
		o  api.Op
		no api.Errno
	}{
		{proof.Held(1, 3, 2, 0), api.ErrAccount}, {proof.Held(1, 2, 2, 0), api.ErrAsset}, {proof.Held(1, 2, 1, 0), api.ErrAmount}, {proof.Held(1, 2, 1, 1), api.OK},
		{proof.Marked(3, 0, 0, 5, 0), api.ErrMark}, {proof.Marked(3, 0, 0, 5, 65537), api.ErrMark}, {proof.Marked(4, 0, 0, 5, 65536), api.OK},
		{proof.Submit(0), api.ErrArg}, {proof.Submit(1), api.ErrShort}, {proof.Submit(1, make([]api.Leg, 5)...), api.ErrMany},
		{proof.Submit(1, proof.Leg(0, 0, 9, 0, 0)), api.ErrSame}, {proof.Submit(1, proof.Leg(0, 1, 9, 0, 0)), api.ErrAsset}, {proof.Submit(1, proof.Leg(0, 1, 0, 1, -1)), api.ErrMark},
		{proof.Identified(6, 1<<40), api.OK}, {proof.Identified(7, 1<<40+1), api.ErrArg}, {proof.Snapshot(), api.OK}, {api.Op{}, api.ErrCode},
		{api.Op{Code: 8, Pairs: make([]api.Key, 65)}, api.ErrMany}, {proof.Snapshot(0, 0, 0, 2), api.ErrAsset},
	} {
		if got := proof.Judge(c, x.o); got != x.no {
			t.Errorf("Judge(%+v) is %v; want %v", x.o, got, x.no)
		}
	}
}
