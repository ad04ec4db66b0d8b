package proof

import (
	"math"
	"slices"

	"custody/api"
)

// Number is any number, most of them small.
func (d *Dice) Number() int {
	return Of(d, d.Below(4), d.Below(4), d.Below(4), d.Below(5)-2, 65534+d.Below(4), math.MaxInt-d.Below(2), math.MinInt+d.Below(2), int(d.Next()))
}

// AnyOp is an operation of which nothing need be right; fields that are not its own are filled in too.
func (d *Dice) AnyOp() api.Op {
	o := api.Op{Code: d.Below(10), Account: d.Number(), Asset: d.Number(), Qty: int64(d.Number()), Name: d.Number(), Id: d.Number()}
	for range d.Below(7) {
		o.Legs = append(o.Legs, Leg(d.Number(), d.Number(), d.Number(), int64(d.Number()), d.Number()))
	}
	for range d.Below(7) {
		o.Pairs = append(o.Pairs, api.Key{Account: d.Number(), Asset: d.Number()})
	}
	return o
}

// Qty is an amount above 0, most of them small, some near the greatest.
func (d *Dice) Qty() int64 {
	return Of(d, 1+int64(d.Below(6)), 1+int64(d.Below(6)), 1+int64(d.Below(20)), api.MaxAmount-int64(d.Below(20)), 1+int64(d.Next()>>1)%api.MaxAmount)
}

// Name is that of a mark, or none.
func (d *Dice) Name() int { return Of(d, 0, 0, 1+d.Below(3), 1+d.Below(10), 65536) }

// ends are two accounts of three, unlike.
func (d *Dice) ends() (int, int) {
	from := d.Below(3)
	return from, (from + 1 + d.Below(2)) % 3
}

// Legs are from 1 to n many, which are taken in a ledger of three accounts and two assets.
func (d *Dice) Legs(n int) []api.Leg {
	var l []api.Leg
	for range 1 + d.Below(n) {
		from, to := d.ends()
		l = append(l, Leg(from, to, d.Below(2), d.Qty(), d.Name()))
	}
	return l
}

// Position is one that is right.
func (d *Dice) Position() api.Position {
	var p api.Position
	left := Of(d, int64(d.Below(30)), int64(d.Below(30)), api.MaxAmount-int64(d.Below(30)), int64(d.Next()>>1))
	for _, name := range Of(d, []int{}, []int{1}, []int{2, 3}, []int{1, 2, 65536}, []int{1, 2, 3, 4, 5, 6, 7, 8}) {
		if part := min(left, Of(d, 1, int64(d.Below(10)), left/2)); part > 0 {
			p.Marks = append(p.Marks, api.Mark{Name: name, Qty: part})
			left -= part
		}
	}
	p.Avail = left
	return p
}

// Op is an operation in a ledger of three accounts and two assets, of which seldom something is wrong; what it asks is near to what is held.
func (d *Dice) Op(held func(k api.Key) api.Position) api.Op {
	o := api.Op{Code: 1 + d.Below(8), Account: d.Below(3), Asset: d.Below(2), Qty: d.Qty(), Name: 1 + d.Below(9), Id: 1 + d.Below(4), Legs: d.Legs(3), Pairs: Keys(d.Below(3), d.Below(2))}
	if p := held(api.Key{Account: o.Account, Asset: o.Asset}); d.Below(2) == 0 {
		o.Qty = d.near(p)
		if len(p.Marks) > 0 && d.Below(3) > 0 {
			o.Name = p.Marks[d.Below(len(p.Marks))].Name
		}
	}
	for i, l := range o.Legs {
		if d.Below(2) == 0 {
			o.Legs[i].Qty = max(1, d.near(held(api.Key{Account: l.From, Asset: l.Asset})))
		}
	}
	if d.Below(12) == 0 {
		d.Twist(&o)
	}
	return o
}

// near is a quantity at, or one past, what counts in a position.
func (d *Dice) near(p api.Position) int64 {
	edges := []int64{p.Avail, api.MaxAmount - p.Avail}
	for _, m := range p.Marks {
		edges = append(edges, m.Qty, p.Avail+m.Qty)
	}
	n := Of(d, edges...)
	return Of(d, n, n, n-1, min(n, api.MaxAmount-1)+1)
}

// Twist makes something of an operation with legs any number.
func (d *Dice) Twist(o *api.Op) {
	o.Legs = slices.Clone(o.Legs)
	n := d.Number()
	switch d.Below(8) {
	case 0:
		o.Code = n
	case 1:
		o.Account = n
	case 2:
		o.Asset = n
	case 3:
		o.Qty = int64(n)
	case 4:
		o.Name = n
	case 5:
		o.Id = n
	case 6:
		o.Legs = slices.Repeat(o.Legs, d.Below(4))
	case 7:
		o.Legs[0] = Of(d, Leg(n, 0, 0, 1, 0), Leg(0, n, 0, 1, 0), Leg(0, 1, n, 1, 0), Leg(0, 1, 0, int64(n), 0), Leg(0, 1, 0, 1, n), Leg(2, 2, n, 1, 0))
	}
}
