package ledger

import (
	"custody/api"
	"custody/balance"
	"custody/guard"
)

// Check is what is wrong with a state.
func Check(c api.Config, s api.State) error {
	if err := guard.Fits(c); err != nil {
		return err
	}
	if err := checkBalances(c, s.Balances); err != nil {
		return err
	}
	if err := checkInstructions(c, s.Instructions); err != nil {
		return err
	}
	return checkQueue(c, s)
}

// checkBalances is the first thing that is wrong with the first balance that is wrong.
func checkBalances(c api.Config, l []api.Balance) error {
	for i, x := range l {
		if err := checkKey(c, x.Key); err != nil {
			return err
		}
		if i > 0 && compare(l[i-1].Key, x.Key) >= 0 {
			return api.ErrArg
		}
		if err := balance.Check(x.Position); err != nil {
			return number(err)
		}
		if balance.Total(x.Position) == 0 {
			return api.ErrShort
		}
	}
	return nil
}

// checkKey asks guard of a key alone: a Snapshot of it is refused if it is none of a position.
func checkKey(c api.Config, k api.Key) error {
	return guard.Check(c, api.Op{Code: api.OpSnapshot, Pairs: []api.Key{k}})
}

// checkInstructions is the first thing that is wrong with the first instruction that is wrong.
func checkInstructions(c api.Config, l []api.Instruction) error {
	last := 0 // ids are above 0
	for _, x := range l {
		if x.Id <= last || x.Id > api.MaxId {
			return api.ErrArg
		}
		last = x.Id
		switch x.Record.Status {
		case api.Pending, api.Settled, api.Cancelled:
		default:
			return api.ErrKind
		}
		if err := guard.Check(c, api.Op{Code: api.OpSubmit, Id: x.Id, Legs: x.Record.Legs}); err != nil {
			return err
		}
	}
	return nil
}

// checkQueue is what is wrong with the queue of a state whose instructions are right: it must have each that is pending, once.
func checkQueue(c api.Config, s api.State) error {
	if len(s.Queue) > c.Queue {
		return api.ErrMany
	}
	seen := map[int]int{} // of each that is pending, how often it has stood in the queue
	for _, x := range s.Instructions {
		if x.Record.Status == api.Pending {
			seen[x.Id] = 0
		}
	}
	for _, id := range s.Queue {
		times, pending := seen[id]
		switch {
		case !pending:
			return api.ErrLost
		case times > 0:
			return api.ErrTwice
		}
		seen[id]++
	}
	if len(seen) > len(s.Queue) { // those of the queue are all unlike
		return api.ErrShort
	}
	return nil
}
