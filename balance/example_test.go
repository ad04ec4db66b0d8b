package balance_test

import (
	"testing"

	"custody/api"
	"custody/balance"
	"custody/proof"
)

// The chapter's examples, in their order.

func TestExamplesMoves(t *testing.T) {
	moves(t, "credit", []move{
		{pos(0), 5, 0, pos(5), api.OK},
		{pos(0), 0, 0, pos(0), api.ErrAmount},
		{pos(api.MaxAmount-3, 2, 3), 1, 0, pos(0), api.ErrOver},
	})
	eight := full(1, 8)
	moves(t, "mark", []move{
		{pos(5), 3, 7, pos(2, 7, 3), api.OK},
		{pos(5), 6, 7, pos(0), api.ErrCover},
		{pos(5), 1, 0, pos(0), api.ErrMark},
		{pos(2, 7, 3), 1, 4, pos(1, 4, 1, 7, 3), api.OK},
		{pos(2, 7, 3), 2, 7, pos(0, 7, 5), api.OK},
		{eight, 1, 9, pos(0), api.ErrMany},
		{eight, 1, 8, pos(0, 1, 1, 2, 1, 3, 1, 4, 1, 5, 1, 6, 1, 7, 1, 8, 2), api.OK},
	})
	moves(t, "debit", []move{
		{pos(2, 7, 3), 4, 7, pos(1), api.OK},
		{pos(2, 7, 3), 3, 7, pos(2), api.OK},
		{pos(2, 7, 3), 3, 0, pos(0), api.ErrCover},
		{pos(2, 7, 3), 2, 9, pos(0, 7, 3), api.OK},
		{pos(2, 7, 3), 2, 65537, pos(0), api.ErrMark},
	})
	moves(t, "unmark", []move{
		{pos(2, 7, 3), 3, 7, pos(5), api.OK},
		{pos(2, 7, 3), 4, 7, pos(0), api.ErrCover},
		{pos(2, 7, 3), 1, 8, pos(0), api.ErrMark},
	})
}

func TestExamplesTold(t *testing.T) {
	p := pos(2, 7, 3)
	if a, b, c := balance.Cover(p, 7), balance.Cover(p, 0), balance.Marked(p, 8); a != 5 || b != 2 || c != 0 {
		t.Errorf("Cover, Cover and Marked are %d, %d, %d", a, b, c)
	}
	for _, x := range []wrong{
		{pos(-1, 0, 0), api.ErrArg, -1},
		{pos(0, 7, 1, 7, 1), api.ErrArg, 1},
		{pos(0, 7, 0), api.ErrArg, 0},
		{pos(1, 7, api.MaxAmount), api.ErrOver, 0},
	} {
		if err := balance.Check(x.p); !proof.TellsAt(err, x.no, 0, x.at) || balance.Total(x.p) != 0 {
			t.Errorf("Check(%v) is %v", x.p, err)
		}
	}
}
