package dvp_test

import (
	"custody/api"
	"custody/proof"
)

// dice throw operations and what views hold.
type dice struct{ proof.Dice }

func newDice(seed int) *dice { return &dice{proof.Dice(seed)} }

// record is one of some instruction, or none; its legs are taken.
func (d *dice) record() api.Record {
	status := proof.Of(&d.Dice, api.None, api.Pending, api.Pending, api.Settled, api.Cancelled)
	if status == api.None && d.Below(4) > 0 {
		return api.Record{}
	}
	return api.Record{Status: status, Legs: d.Legs(4)}
}

// cells are what is held of two assets in three accounts, and the records of three ids; some cells hold both.
func (d *dice) cells() cells {
	c := cells{}
	for account := range 3 {
		for asset := range 2 {
			if d.Below(5) > 0 {
				c[key(account, asset)] = api.Cell{Position: d.Position()}
			}
		}
	}
	for id := 1; id <= 3; id++ {
		c[key(-1, id)] = api.Cell{Record: d.record()}
	}
	if d.Below(4) == 0 { // what the other part of a cell holds is none of an operation's business
		k := proof.Of(&d.Dice, key(0, 0), key(1, 1), key(-1, 1), key(-1, 2))
		x := c[k]
		if k.Account == -1 {
			x.Position = d.Position()
		} else {
			x.Record = d.record()
		}
		c[k] = x
	}
	return c
}

// op is an operation whose quantities are near to what these cells hold.
func (d *dice) op(c cells) api.Op {
	return d.Op(func(k api.Key) api.Position { return c[k].Position })
}
