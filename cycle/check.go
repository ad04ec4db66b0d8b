package cycle

import (
	"errors"

	"custody/api"
	"custody/balance"
)

// checkBoth is what is wrong with balances; if nothing is, with wishes.
func checkBoth(b []api.Balance, l []api.Wish) error {
	if err := checkBalances(b); err != nil {
		return err
	}
	return checkWishes(l)
}

// checkBalances is the first thing that is wrong with the first balance that is wrong.
func checkBalances(b []api.Balance) error {
	for at, x := range b {
		isBelow := x.Key.Account < 0 || x.Key.Asset < 0
		if isBelow || at > 0 && compare(b[at-1].Key, x.Key) >= 0 {
			return api.ErrArg
		}
		if err := balance.Check(x.Position); err != nil {
			return number(err)
		}
	}
	return nil
}

// number is that of an error, without a place.
func number(err error) api.Errno {
	var no api.Errno
	errors.As(err, &no)
	return no
}

// checkWishes is the first thing that is wrong with the first wish that is wrong.
func checkWishes(l []api.Wish) error {
	if len(l) > api.MaxQueue {
		return api.ErrMany
	}
	ids := map[int]struct{}{} // of the wishes ahead
	for _, w := range l {
		_, twice := ids[w.Id]
		switch {
		case w.Id < 1 || w.Id > api.MaxId:
			return api.ErrArg
		case twice:
			return api.ErrTwice
		case len(w.Legs) == 0:
			return api.ErrShort
		case len(w.Legs) > api.MaxLegs:
			return api.ErrMany
		}
		for _, x := range w.Legs {
			if err := checkLeg(x); err != nil {
				return err
			}
		}
		ids[w.Id] = struct{}{}
	}
	return nil
}

func checkLeg(x api.Leg) error {
	switch {
	case x.From < 0 || x.To < 0:
		return api.ErrAccount
	case x.From == x.To:
		return api.ErrSame
	case x.Asset < 0:
		return api.ErrAsset
	case x.Qty < 1:
		return api.ErrAmount
	case x.Name != 0:
		return api.ErrMark
	}
	return nil
}
