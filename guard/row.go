package guard

import "custody/api"

const (
	legSize  = 5
	pairSize = 2
)

// row is a row of numbers. It is read from the first number behind its code on, and written behind those that are there.
type row []int64

func (r row) held() api.Op {
	return api.Op{Account: int(r[0]), Asset: int(r[1]), Qty: r[2]}
}

func (r row) withHeld(o api.Op) row {
	return append(r, int64(o.Account), int64(o.Asset), o.Qty)
}

func (r row) marked() api.Op {
	o := r.held()
	o.Name = int(r[3])
	return o
}

func (r row) withMarked(o api.Op) row {
	return append(r.withHeld(o), int64(o.Name))
}

func (r row) identified() api.Op {
	return api.Op{Id: int(r[0])}
}

func (r row) withIdentified(o api.Op) row {
	return append(r, int64(o.Id))
}

func (r row) submitted() api.Op {
	o := r.identified()
	for left := r[1:]; len(left) > 0; left = left[legSize:] {
		o.Legs = append(o.Legs, api.Leg{From: int(left[0]), To: int(left[1]), Asset: int(left[2]), Qty: left[3], Name: int(left[4])})
	}
	return o
}

func (r row) withSubmitted(o api.Op) row {
	r = r.withIdentified(o)
	for _, l := range o.Legs {
		r = append(r, int64(l.From), int64(l.To), int64(l.Asset), l.Qty, int64(l.Name))
	}
	return r
}

func (r row) paired() api.Op {
	var o api.Op
	for left := r; len(left) > 0; left = left[pairSize:] {
		o.Pairs = append(o.Pairs, api.Key{Account: int(left[0]), Asset: int(left[1])})
	}
	return o
}

func (r row) withPaired(o api.Op) row {
	for _, k := range o.Pairs {
		r = append(r, int64(k.Account), int64(k.Asset))
	}
	return r
}
