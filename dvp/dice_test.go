package dvp_test

import (
	"math"
	"slices"

	"custody/api"
	"custody/proof"
)

// dice throw operations and what views hold.
type dice struct{ proof.Dice }

func newDice(seed int) *dice { return &dice{proof.Dice(seed)} }

// number is any number, most of them small.
func (d *dice) number() int {
	return proof.Of(&d.Dice, d.Below(4), d.Below(4), d.Below(4), d.Below(5)-2, 65534+d.Below(4), math.MaxInt-d.Below(2), math.MinInt+d.Below(2), int(d.Next()))
}

// anyOp is an operation of which nothing need be right; fields that are not its own are filled in too.
func (d *dice) anyOp() api.Op {
	o := api.Op{Code: d.Below(10), Account: d.number(), Asset: d.number(), Qty: int64(d.number()), Name: d.number(), Id: d.number()}
	for range d.Below(7) {
		o.Legs = append(o.Legs, leg(d.number(), d.number(), d.number(), int64(d.number()), d.number()))
	}
	for range d.Below(7) {
		o.Pairs = append(o.Pairs, key(d.number(), d.number()))
	}
	return o
}

// qty is an amount above 0, most of them small, some near the greatest.
func (d *dice) qty() int64 {
	return proof.Of(&d.Dice, 1+int64(d.Below(6)), 1+int64(d.Below(6)), 1+int64(d.Below(20)), most-int64(d.Below(20)), 1+int64(d.Next()>>1)%most)
}

// name is that of a mark, or none.
func (d *dice) name() int { return proof.Of(&d.Dice, 0, 0, 1+d.Below(3), 1+d.Below(10), 65536) }

// ends are two accounts, unlike.
func (d *dice) ends() (int, int) {
	from := d.Below(3)
	return from, (from + 1 + d.Below(2)) % 3
}

// leg is one that is taken.
func (d *dice) leg() api.Leg {
	from, to := d.ends()
	return leg(from, to, d.Below(2), d.qty(), d.name())
}

// legs are from 1 to n many, which are taken.
func (d *dice) legs(n int) []api.Leg {
	var l []api.Leg
	for range 1 + d.Below(n) {
		l = append(l, d.leg())
	}
	return l
}

// position is one that is right.
func (d *dice) position() api.Position {
	var p api.Position
	left := proof.Of(&d.Dice, int64(d.Below(30)), int64(d.Below(30)), most-int64(d.Below(30)), int64(d.Next()>>1))
	for _, name := range proof.Of(&d.Dice, []int{}, []int{1}, []int{2, 3}, []int{1, 2, 65536}, []int{1, 2, 3, 4, 5, 6, 7, 8}) {
		if part := min(left, proof.Of(&d.Dice, 1, int64(d.Below(10)), left/2)); part > 0 {
			p.Marks = append(p.Marks, api.Mark{Name: name, Qty: part})
			left -= part
		}
	}
	p.Avail = left
	return p
}

// record is one of some instruction, or none; its legs are taken.
func (d *dice) record() api.Record {
	status := proof.Of(&d.Dice, api.None, api.Pending, api.Pending, api.Settled, api.Cancelled)
	if status == api.None && d.Below(4) > 0 {
		return api.Record{}
	}
	return api.Record{Status: status, Legs: d.legs(4)}
}

// cells are what is held of two assets in three accounts, and the records of three ids; some cells hold both.
func (d *dice) cells() cells {
	c := cells{}
	for account := range 3 {
		for asset := range 2 {
			if d.Below(5) > 0 {
				c[key(account, asset)] = api.Cell{Position: d.position()}
			}
		}
	}
	for id := 1; id <= 3; id++ {
		c[key(-1, id)] = api.Cell{Record: d.record()}
	}
	if d.Below(4) == 0 { // what the other part of a cell holds is none of an operation's business
		k := proof.Of(&d.Dice, key(0, 0), key(1, 1), key(-1, 1), key(-1, 2))
		x := c[k]
		if k.Account == -1 {
			x.Position = d.position()
		} else {
			x.Record = d.record()
		}
		c[k] = x
	}
	return c
}

// op is an operation of which seldom something is wrong; what it asks is near to what is held.
func (d *dice) op(c cells) api.Op {
	o := api.Op{Code: 1 + d.Below(8), Account: d.Below(3), Asset: d.Below(2), Qty: d.qty(), Name: 1 + d.Below(9), Id: 1 + d.Below(4), Legs: d.legs(3), Pairs: keys(d.Below(3), d.Below(2))}
	if p := c[key(o.Account, o.Asset)].Position; d.Below(2) == 0 {
		o.Qty = d.near(p)
		if len(p.Marks) > 0 && d.Below(3) > 0 {
			o.Name = p.Marks[d.Below(len(p.Marks))].Name
		}
	}
	for i, l := range o.Legs {
		if d.Below(2) == 0 {
			o.Legs[i].Qty = max(1, d.near(c[key(l.From, l.Asset)].Position))
		}
	}
	if d.Below(12) == 0 {
		d.twist(&o)
	}
	return o
}

// near is a quantity at, or one past, what counts in a position.
func (d *dice) near(p api.Position) int64 {
	edges := []int64{p.Avail, most - p.Avail}
	for _, m := range p.Marks {
		edges = append(edges, m.Qty, p.Avail+m.Qty)
	}
	n := proof.Of(&d.Dice, edges...)
	return proof.Of(&d.Dice, n, n, n-1, min(n, most-1)+1)
}

// twist makes something of an operation any number.
func (d *dice) twist(o *api.Op) {
	o.Legs = slices.Clone(o.Legs)
	n := d.number()
	switch d.Below(8) {
	case 0:
		o.Code = n
	case 1:
		o.Account = n
	case 2:
		o.Asset = n
	case 3:
		o.Qty = int64(n)
	case 4:
		o.Name = n
	case 5:
		o.Id = n
	case 6:
		o.Legs = slices.Repeat(o.Legs, d.Below(4))
	case 7:
		o.Legs[0] = proof.Of(&d.Dice, leg(n, 0, 0, 1, 0), leg(0, n, 0, 1, 0), leg(0, 1, n, 1, 0), leg(0, 1, 0, int64(n), 0), leg(0, 1, 0, 1, n), leg(2, 2, n, 1, 0))
	}
}
