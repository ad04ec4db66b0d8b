package dvp_test

import (
	"slices"
	"testing"

	"custody/api"
	"custody/dvp"
)

// The chapter's examples, in their order: account 0 holds 5 of asset 1; account 2 holds 9 of asset 0, of which 4 under the name 7.

func TestExamplesKeys(t *testing.T) {
	if got := dvp.Keys(submit(8, leg(0, 2, 1, 5, 0), leg(2, 0, 0, 9, 7))); !slices.Equal(got, keys(-1, 8, 0, 0, 0, 1, 2, 0, 2, 1)) {
		t.Errorf("the keys of the Submit are %v", got)
	}
	if got := dvp.Keys(ided(api.OpCancel, 8)); !slices.Equal(got, keys(-1, 8)) {
		t.Errorf("the keys of the Cancel are %v", got)
	}
	if got := dvp.Keys(api.Op{}); len(got) > 0 {
		t.Errorf("the keys of the operation 0 are %v", got)
	}
}

func TestExamplesApply(t *testing.T) {
	trade := func(qty, back int64, name int) api.Op {
		return submit(8, leg(0, 2, 1, qty, 0), leg(2, 0, 0, back, name))
	}
	for n, x := range []struct {
		o       api.Op
		room    bool
		answer  api.Answer
		changed []api.Key
	}{
		{trade(5, 9, 7), false, said(api.Settled), keys(0, 0, 0, 1, 2, 0, 2, 1)},
		{trade(5, 9, 0), false, no(api.ErrFull), nil},
		{trade(5, 9, 0), true, said(api.Pending), nil},
		{trade(6, 9, 7), false, no(api.ErrFull), nil},
		{submit(8, leg(0, 2, 1, 5, 0), leg(2, 0, 1, 5, 0)), false, no(api.ErrFull), nil},
		{submit(0, leg(0, 2, 1, 5, 0)), false, no(api.ErrArg), nil},
		{snapshot(0, 1), false, no(api.ErrCode), nil},
		{held(api.OpDeposit, 0, 1, 0), false, no(api.ErrAmount), nil},
		{marked(api.OpMark, 2, 0, 2, 7), false, api.Answer{}, keys(2, 0)},
	} {
		a, changed := dvp.Apply(open(ready()), x.o, x.room)
		if a.Err != x.answer.Err || a.Status != x.answer.Status || !slices.Equal(changed, x.changed) {
			t.Errorf("%d: it is answered %+v, %v", n, a, changed)
		}
	}
}

func TestExamplesSettle(t *testing.T) {
	if l, ok := dvp.Settle(open(ready()), 8); ok || len(l) > 0 {
		t.Errorf("Settle is %v, %v", l, ok)
	}
}
