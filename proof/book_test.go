package proof_test

import (
	"slices"
	"testing"

	"custody/api"
	"custody/proof"
)

// step is an operation with its answer.
type step struct {
	o api.Op
	a api.Answer
}

func said(status int) api.Answer { return api.Answer{Status: status} }

func no(err api.Errno) api.Answer { return api.Answer{Err: err} }

// steps does operations in a small ledger, one behind the other.
func steps(t *testing.T, b *proof.Book, room bool, l []step) {
	t.Helper()
	for n, x := range l {
		if got := b.Do(api.Config{Accounts: 3, Assets: 2}, x.o, room); !proof.SameAnswer(got, x.a) {
			t.Errorf("%d: %+v is answered %+v; want %+v", n, x.o, got, x.a)
		}
	}
}

func TestBookOfOnePosition(t *testing.T) {
	b := proof.NewBook()
	steps(t, b, true, []step{
		{proof.Held(1, 0, 0, 5), said(0)},
		{proof.Held(2, 0, 0, 6), no(api.ErrCover)},
		{proof.Marked(3, 0, 0, 6, 9), no(api.ErrCover)},
		{proof.Marked(3, 0, 0, 4, 9), said(0)},
		{proof.Snapshot(0, 0, 2, 1), api.Answer{Positions: []api.Position{proof.Position(1, 9, 4), {}}}},
		{proof.Held(2, 0, 0, 2), no(api.ErrCover)},
		{proof.Marked(4, 0, 0, 1, 8), no(api.ErrMark)},
		{proof.Marked(4, 0, 0, 5, 9), no(api.ErrCover)},
		{proof.Marked(4, 0, 0, 1, 9), said(0)},
		{proof.Held(1, 0, 0, api.MaxAmount-4), no(api.ErrOver)},
		{proof.Held(1, 0, 0, api.MaxAmount-5), said(0)},
		{proof.Held(2, 0, 0, api.MaxAmount-3), said(0)},
		{proof.Marked(4, 0, 0, 3, 9), said(0)},
		{proof.Held(2, 0, 0, 3), said(0)},
		{proof.Held(1, 3, 0, 3), no(api.ErrAccount)},
	})
	if len(b.Held) != 0 {
		t.Errorf("held is %v", b.Held)
	}
	b.Lay(api.Key{}, proof.Position(1, 1, 1, 2, 1, 3, 1, 4, 1, 5, 1, 6, 1, 7, 1, 8, 1))
	steps(t, b, true, []step{{proof.Marked(3, 0, 0, 1, 9), no(api.ErrMany)}, {proof.Marked(3, 0, 0, 1, 8), said(0)}})
}

func TestBookOfInstructions(t *testing.T) {
	b := proof.NewBook()
	swap := proof.Submit(7, proof.Leg(0, 1, 0, 5, 0), proof.Leg(1, 0, 1, 70, 0))
	steps(t, b, true, []step{
		{proof.Held(1, 0, 0, 5), said(0)},
		{swap, said(api.Pending)},
		{swap, no(api.ErrTwice)},
		{proof.Submit(9, proof.Leg(1, 2, 0, 5, 0)), said(api.Pending)},
	})
	steps(t, b, false, []step{
		{proof.Submit(8, proof.Leg(1, 2, 0, 5, 0)), no(api.ErrFull)},
		{proof.Identified(7, 7), said(api.Pending)},
		{proof.Identified(7, 8), no(api.ErrLost)},
		{proof.Held(1, 1, 1, 70), said(0)},
	})
	if b.Settle(9) || b.Settle(8) || !slices.Equal(b.Queue, []int{7, 9}) {
		t.Errorf("the queue is %v", b.Queue)
	}
	if !b.Settle(7) || b.Settle(7) || !slices.Equal(b.Queue, []int{9}) || b.Total(api.Key{Account: 1}) != 5 || b.Total(api.Key{Asset: 1}) != 70 || b.Total(api.Key{}) != 0 {
		t.Errorf("the book is %v", b)
	}
	steps(t, b, true, []step{
		{proof.Identified(6, 7), no(api.ErrFinal)},
		{proof.Identified(6, 9), said(api.Cancelled)},
		{proof.Identified(6, 9), no(api.ErrFinal)},
		{proof.Identified(6, 8), no(api.ErrLost)},
		{proof.Held(1, 2, 0, api.MaxAmount), said(0)},
		{proof.Submit(8, proof.Leg(1, 2, 0, 5, 0)), no(api.ErrOver)},
	})
	if len(b.Queue) != 0 || b.Records[9].Status != api.Cancelled || len(b.Records) != 2 {
		t.Errorf("the book is %v", b)
	}
}

func TestBookMoves(t *testing.T) {
	b := proof.NewBook()
	b.Lay(api.Key{}, proof.Position(2, 7, 3))
	ahead := b.Copy()
	for n, x := range []struct {
		legs []api.Leg
		no   api.Errno
	}{
		{[]api.Leg{proof.Leg(0, 1, 0, 3, 0)}, api.ErrCover},
		{[]api.Leg{proof.Leg(0, 1, 0, 6, 7)}, api.ErrCover},
		{[]api.Leg{proof.Leg(0, 1, 0, 4, 7), proof.Leg(0, 1, 0, 2, 0)}, api.ErrCover},
		{[]api.Leg{proof.Leg(0, 1, 0, 4, 7), proof.Leg(1, 0, 0, 1, 0)}, api.ErrCover},
		{[]api.Leg{proof.Leg(0, 1, 0, 4, 7), proof.Leg(0, 2, 0, 1, 7)}, api.OK},
	} {
		if got := b.Move(x.legs); got != x.no {
			t.Errorf("%d: Move is %v", n, got)
		}
		if x.no != api.OK && !proof.SamePosition(b.Position(api.Key{}), ahead.Position(api.Key{})) {
			t.Errorf("%d: it is %v", n, b.Held)
		}
	}
	if b.Total(api.Key{}) != 0 || b.Total(api.Key{Account: 1}) != 4 || b.Total(api.Key{Account: 2}) != 1 || ahead.Total(api.Key{}) != 5 {
		t.Errorf("it is %v, ahead %v", b.Held, ahead.Held)
	}
}
