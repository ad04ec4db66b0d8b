package proof_test

import (
	"math/big"
	"slices"
	"testing"

	"custody/api"
	"custody/proof"
)

// aState is one with something in each list.
func aState() api.State {
	return api.State{
		Balances: []api.Balance{
			{Key: api.Key{Account: 0, Asset: 1}, Position: proof.Position(5)},
			{Key: api.Key{Account: 2, Asset: 0}, Position: proof.Position(0, 3, 1, 7, 2)},
			{Key: api.Key{Account: 2, Asset: 1}, Position: proof.Position(api.MaxAmount)},
		},
		Instructions: []api.Instruction{
			{Id: 4, Record: api.Record{Status: api.Pending, Legs: []api.Leg{proof.Leg(0, 1, 1, 5, 0)}}},
			{Id: 6, Record: api.Record{Status: api.Settled, Legs: []api.Leg{proof.Leg(0, 1, 1, 2, 0)}}},
			{Id: 8, Record: api.Record{Status: api.Pending, Legs: []api.Leg{proof.Leg(1, 0, 1, 5, 0)}}},
		},
		Queue: []int{8, 4},
	}
}

func TestBookOfState(t *testing.T) {
	b := proof.BookOf(aState())
	if !proof.SameState(b.State(), aState()) || !proof.SameState(proof.NewBook().State(), api.State{}) {
		t.Errorf("the state is %+v", b.State())
	}
	if !proof.SamePosition(b.Position(api.Key{Account: 2}), proof.Position(0, 3, 1, 7, 2)) || len(b.Held) != 3 || len(b.Records) != 3 || b.Records[6].Status != api.Settled {
		t.Errorf("the book is %+v", b)
	}
}

func TestBookReadyAndDrain(t *testing.T) {
	b := proof.BookOf(aState())
	if got := b.Ready(); !slices.Equal(got, []int{4}) || !proof.SameState(b.State(), aState()) {
		t.Errorf("Ready is %v, and leaves %+v", got, b.State())
	}
	if got := b.Drain(); !slices.Equal(got, []int{4, 8}) || len(b.Queue) != 0 || b.Total(api.Key{Asset: 1}) != 5 {
		t.Errorf("Drain is %v, and leaves %+v", got, b.State())
	}
	if len(b.Ready()) != 0 || len(b.Drain()) != 0 {
		t.Error("something is left")
	}
}

func TestBookSum(t *testing.T) {
	b := proof.BookOf(aState())
	if a, c, d := b.Sum(0), b.Sum(1), b.Sum(2); a.Cmp(big.NewInt(3)) != 0 || c.Cmp(proof.Wide(0, 1<<63+4)) != 0 || d.Sign() != 0 {
		t.Errorf("the sums are %v, %v, %v", a, c, d)
	}
	if got := proof.Wide(2, 5); got.String() != "36893488147419103237" {
		t.Errorf("Wide(2, 5) is %v", got)
	}
}

func TestBehind(t *testing.T) {
	l := proof.Keys(-1, 9, 0, 0, 0, 1, 1, 0, 1, 5, 2, -1)
	for i, a := range l {
		for j, b := range l {
			if proof.Behind(a, b) != (i > j) {
				t.Errorf("Behind(%v, %v) is %v", a, b, i <= j)
			}
		}
	}
}

// turnsOfState each change one thing of aState.
func turnsOfState() []func(s *api.State) {
	return []func(s *api.State){
		func(s *api.State) { s.Balances[1].Key.Asset++ },
		func(s *api.State) { s.Balances[1].Position.Avail++ },
		func(s *api.State) { s.Balances[1].Position.Marks[0].Qty++ },
		func(s *api.State) { s.Balances = s.Balances[:2] },
		func(s *api.State) { s.Instructions[2].Id++ },
		func(s *api.State) { s.Instructions[2].Record.Status++ },
		func(s *api.State) { s.Instructions[2].Record.Legs[0].Name++ },
		func(s *api.State) { s.Instructions = s.Instructions[1:] },
		func(s *api.State) { s.Queue[0]++ },
		func(s *api.State) { s.Queue = s.Queue[:1] },
	}
}

func TestSameState(t *testing.T) {
	empty := api.State{Balances: []api.Balance{}, Instructions: []api.Instruction{}, Queue: []int{}}
	if !proof.SameState(aState(), aState()) || !proof.SameState(api.State{}, empty) {
		t.Error("the same are not the same")
	}
	for n, turn := range turnsOfState() {
		s := aState()
		if turn(&s); proof.SameState(s, aState()) {
			t.Errorf("turn %d isn't seen", n)
		}
	}
}

func TestRoomyState(t *testing.T) {
	s := aState()
	roomy := proof.RoomyState(s)
	if !proof.SameState(roomy, aState()) || cap(roomy.Balances) < 6 || cap(roomy.Instructions) < 6 || cap(roomy.Queue) < 5 || cap(roomy.Balances[0].Position.Marks) < 3 || cap(roomy.Instructions[1].Record.Legs) < 4 {
		t.Errorf("RoomyState is %+v", roomy)
	}
	whole := proof.WholeState(roomy)
	if len(whole.Queue) < 5 || len(whole.Balances[0].Position.Marks) < 3 || !proof.SameState(whole, proof.WholeState(roomy)) {
		t.Errorf("WholeState is %+v", whole)
	}
	for n, turn := range []func(){
		func() { roomy.Balances[:4][3].Key.Account = 1 },
		func() { roomy.Balances[0].Position.Marks[:1][0].Qty = 1 },
		func() { roomy.Instructions[:4][3].Id = 1 },
		func() { roomy.Instructions[0].Record.Legs[:2][1].Qty = 1 },
		func() { roomy.Queue[:3][2] = 1 },
	} {
		if turn(); !proof.SameState(roomy, aState()) || proof.SameState(whole, proof.WholeState(roomy)) {
			t.Errorf("turn %d of the spare room isn't seen", n)
		}
		whole = proof.WholeState(roomy)
	}
	if proof.OverrunState(roomy); !proof.SameState(roomy, aState()) || proof.SameState(whole, proof.WholeState(roomy)) {
		t.Errorf("OverrunState left %+v", roomy)
	}
	marks, legs := roomy.Balances[1].Position.Marks, roomy.Instructions[0].Record.Legs
	if proof.SpoilState(roomy); roomy.Queue[0] == 8 || roomy.Balances[0].Key == s.Balances[0].Key || roomy.Instructions[0].Id == 4 || marks[0].Name == 3 || legs[0].Asset == 1 {
		t.Errorf("SpoilState left %+v", roomy)
	}
	if !proof.SameState(s, aState()) {
		t.Errorf("what was copied became %+v", s)
	}
}

func TestBalance(t *testing.T) {
	if got := proof.Balance(2, 3, proof.Position(5)); got.Key != (api.Key{Account: 2, Asset: 3}) || got.Position.Avail != 5 {
		t.Errorf("Balance is %+v", got)
	}
}

// TestRoomyBalances: what is done with the balances of a state is done so with balances alone.
func TestRoomyBalances(t *testing.T) {
	s := aState()
	roomy := proof.RoomyBalances(s.Balances)
	if !proof.SameBalances(roomy, s.Balances) || !proof.SameBalances(nil, []api.Balance{}) || proof.SameBalances(roomy, s.Balances[1:]) || cap(roomy) < 6 || cap(roomy[0].Position.Marks) < 3 {
		t.Errorf("RoomyBalances is %+v", roomy)
	}
	roomy[:4][3].Position.Avail = 1
	roomy[0].Position.Marks[:1][0].Qty = 1
	whole := proof.WholeBalances(roomy)
	if len(whole) < 6 || whole[3].Position.Avail != 1 || whole[0].Position.Marks[0].Qty != 1 {
		t.Errorf("WholeBalances is %+v", whole)
	}
	if proof.OverrunBalances(roomy); roomy[:4][3].Position.Avail == 1 || roomy[0].Position.Marks[:1][0].Qty == 1 || !proof.SameBalances(roomy, s.Balances) || whole[3].Position.Avail != 1 {
		t.Errorf("OverrunBalances left %+v", roomy)
	}
	proof.SpoilBalances(roomy)
	for at, x := range proof.Whole(roomy) {
		if x.Key.Account >= 0 || x.Position.Avail >= 0 {
			t.Errorf("SpoilBalances left %+v at %d", x, at)
		}
	}
	if !proof.SameState(s, aState()) {
		t.Errorf("what was copied became %+v", s)
	}
}

func TestSpoilAnswer(t *testing.T) {
	of := func() api.Answer {
		return api.Answer{Positions: append(make([]api.Position, 0, 4), proof.Position(5, 3, 1), proof.Position(6))}
	}
	a := of()
	if proof.OverrunAnswer(a); !proof.SameAnswer(a, of()) || a.Positions[:3][2].Avail == 0 {
		t.Errorf("OverrunAnswer left %+v", a)
	}
	marks := a.Positions[0].Marks
	if proof.SpoilAnswer(a); a.Positions[0].Avail == 5 || a.Positions[1].Avail == 6 || marks[0].Qty == 1 {
		t.Errorf("SpoilAnswer left %+v", a)
	}
}

// TestThrownOps: what is thrown is as it says: operations of each code, most of them right, legs that are taken, positions that are right.
func TestThrownOps(t *testing.T) {
	var d proof.Dice = 3
	c := api.Config{Accounts: 3, Assets: 2}
	codes, refused, wrong := map[int]int{}, map[api.Errno]int{}, map[api.Errno]int{}
	b := proof.NewBook()
	for range 3000 {
		p := d.Position()
		k := api.Key{Account: d.Below(3), Asset: d.Below(2)}
		if b.Lay(k, p); !proof.SamePosition(b.Position(k), p) || b.Total(k) > api.MaxAmount || len(p.Marks) > 8 {
			t.Fatalf("the position is %v", p)
		}
		if l := d.Legs(4); proof.Judge(c, proof.Submit(1, l...)) != api.OK {
			t.Fatalf("the legs are %v", l)
		}
		o := d.Op(b.Position)
		codes[o.Code]++
		refused[proof.Judge(c, o)]++
		wrong[proof.Judge(c, d.AnyOp())]++
	}
	for code := 1; code <= 8; code++ {
		if codes[code] < 200 {
			t.Errorf("only %d have the code %d", codes[code], code)
		}
	}
	if refused[api.OK] < 2000 || len(refused) < 8 || wrong[api.OK] > 1000 || len(wrong) < 9 {
		t.Errorf("the operations are refused so: %v, the others so: %v", refused, wrong)
	}
}
