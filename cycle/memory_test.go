package cycle_test

import (
	"slices"
	"testing"

	"custody/api"
	"custody/proof"
)

// What spare room is filled with; no test draws it.
const junk = -77

var (
	junkLeg  = api.Leg{From: junk, Qty: junk}
	junkWish = api.Wish{Id: junk, Priority: junk}
)

// roomyWishes are wishes with spare room behind them, and behind the legs of each.
func roomyWishes(l []api.Wish) []api.Wish {
	l = proof.Room(l, junkWish)
	for x := range l {
		l[x].Legs = proof.Room(l[x].Legs, junkLeg)
	}
	return l
}

// wholeWishes are wishes with all spare room, to be held against themselves later.
func wholeWishes(l []api.Wish) []api.Wish {
	l = slices.Clone(proof.Whole(l))
	for x := range l {
		l[x].Legs = slices.Clone(proof.Whole(l[x].Legs))
	}
	return l
}

func spoilWishes(l []api.Wish) {
	for _, w := range l {
		proof.Overwrite(w.Legs, junkLeg)
	}
	proof.Overwrite(l, junkWish)
}

func sameWishes(a, b []api.Wish) bool {
	return slices.EqualFunc(a, b, func(v, w api.Wish) bool {
		return v.Id == w.Id && v.Priority == w.Priority && v.Came == w.Came && slices.Equal(v.Legs, w.Legs)
	})
}

// asked are balances and wishes with spare room, of which all have wishes that settle, and some all of them.
func asked(d *proof.Dice) ([]api.Balance, []api.Wish) {
	b, l := throwBalances(d, 4), throwWishes(d, 1+d.Below(6), 4)
	switch d.Below(4) {
	case 0:
		spoilt(d, b, l)
	case 1:
		l = wishes(ranked(2, 1, 1, leg(1, 2, 0, 3)), ranked(1, 2, 0, leg(2, 1, 0, 3), leg(2, 1, 1, 5)), ranked(5, 0, 0, leg(3, 1, 1, 5)), wish(3, leg(1, 3, 1, 5)), wish(4, leg(1, 2, 1, 5)))
		b = balances(held(0, 0, pos(5, 1, 2, 3, 4)), held(1, 0, pos(5, 6, 7)), held(1, 1, pos(10)), held(3, 1, pos(5, 8, 9)))
	}
	return proof.RoomyBalances(b), roomyWishes(l)
}

// TestArgumentsAreLeft is R4: balances and wishes that are handed in, their spare room, and that of their marks and legs, stay as they are.
func TestArgumentsAreLeft(t *testing.T) {
	d := proof.Dice(2440)
	for range 4000 {
		b, l := asked(&d)
		oldBalances, oldWishes := proof.WholeBalances(b), wholeWishes(l)
		answered(b, l)
		if !proof.SameBalances(proof.WholeBalances(b), oldBalances) || !sameWishes(wholeWishes(l), oldWishes) {
			t.Fatalf("%+v, %+v became %+v, %+v", oldBalances, oldWishes, proof.WholeBalances(b), wholeWishes(l))
		}
	}
}

// copied is a copy of answers that shares nothing with them.
func copied(a answers) answers {
	a.net, a.behind = proof.RoomyBalances(a.net), proof.RoomyBalances(a.behind)
	a.ids, a.rings = slices.Clone(a.ids), proof.CopyLists(a.rings)
	return a
}

// TestAnswersAreNew is R4: an answer shares no memory with another one, nor with what was handed in; and no two lists of one answer share any.
func TestAnswersAreNew(t *testing.T) {
	d := proof.Dice(2441)
	var marked, tied int
	for range 4000 {
		b, l := asked(&d)
		one, two := answered(b, l), answered(b, l)
		want := copied(two)
		proof.OverrunBalances(one.net)
		proof.OverrunBalances(one.behind)
		proof.OverrunLists(one.rings, junk)
		proof.Overwrite(one.ids[len(one.ids):], junk)
		if !sameAnswers(one, want) {
			t.Fatalf("lists of %+v share memory", one)
		}
		if len(one.rings) > 0 {
			tied++
		}
		if slices.ContainsFunc(one.behind, func(x api.Balance) bool { return len(x.Position.Marks) > 0 }) {
			marked++
		}
		proof.SpoilBalances(one.net)
		proof.SpoilBalances(one.behind)
		proof.SpoilLists(one.rings, junk)
		proof.Overwrite(one.ids, junk)
		if again := answered(b, l); !sameAnswers(two, want) || !sameAnswers(again, want) {
			t.Fatalf("answers share memory: %+v, %+v, not %+v", two, again, want)
		}
		proof.SpoilBalances(b)
		if spoilWishes(l); !sameAnswers(two, want) {
			t.Fatalf("%+v was %+v, before what was handed in was changed", two, want)
		}
	}
	if marked < 300 || tied < 300 {
		t.Errorf("%d had marks, %d rings", marked, tied)
	}
}

// TestNoLists is R3: no list and an empty one are the same, also marks and legs.
func TestNoLists(t *testing.T) {
	for _, room := range []int{0, 3} {
		b, l := make([]api.Balance, 0, room), make([]api.Wish, 0, room)
		agrees(t, b, l)
		agrees(t, b, nil)
		agrees(t, nil, l)
		marks := balances(api.Balance{Key: api.Key{Account: 1}, Position: api.Position{Avail: 3, Marks: make([]api.Mark, 0, room)}}, api.Balance{Key: api.Key{Account: 2}, Position: api.Position{Marks: make([]api.Mark, 0, room)}})
		agrees(t, marks, wishes(wish(1, leg(1, 2, 0, 3))))
		settles(t, marks, wishes(wish(1, leg(1, 2, 0, 3))), balances(held(2, 0, pos(3))), api.OK)
		wrong(t, wishes(wish(1, make([]api.Leg, 0, room)...)), api.ErrShort)
	}
}

// TestAllAtOnce is R5: calls that run at the same time know nothing of one another.
func TestAllAtOnce(t *testing.T) {
	d := proof.Dice(2442)
	b, l := asked(&d)
	want := answered(b, l)
	same := make(chan bool)
	for range 8 {
		go func() {
			ok := true
			for range 100 {
				ok = ok && sameAnswers(answered(b, l), want)
			}
			same <- ok
		}()
	}
	for range 8 {
		if !<-same {
			t.Error("another answer")
		}
	}
}
