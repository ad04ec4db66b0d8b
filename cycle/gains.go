package cycle

import (
	"cmp"
	"maps"
	"slices"

	"custody/api"
)

// gains are what keys get of wishes.
type gains map[api.Key]wide

// gainsOf are what keys get of all these wishes.
func gainsOf(l []api.Wish) gains {
	g := gains{}
	for _, w := range l {
		g.add(w)
	}
	return g
}

// add lets keys get what one more wish comes to.
func (g gains) add(w api.Wish) {
	for _, x := range w.Legs {
		g.turn(taken(x), -x.Qty)
		g.turn(given(x), x.Qty)
	}
}

// drop lets keys no longer get what a wish comes to.
func (g gains) drop(w api.Wish) {
	for _, x := range w.Legs {
		g.turn(taken(x), x.Qty)
		g.turn(given(x), -x.Qty)
	}
}

func (g gains) turn(k api.Key, by int64) { g[k] = g[k].plus(widened(by)) }

// only lets keys get what this wish comes to, and nothing else.
func (g gains) only(w api.Wish) {
	clear(g)
	g.add(w)
}

// keys are those that the wishes name, rising.
func (g gains) keys() []api.Key { return slices.SortedFunc(maps.Keys(g), compare) }

// taken is the key from which a leg takes.
func taken(x api.Leg) api.Key { return api.Key{Account: x.From, Asset: x.Asset} }

// given is the key to which a leg gives.
func given(x api.Leg) api.Key { return api.Key{Account: x.To, Asset: x.Asset} }

// compare is below 0, if the first key stands ahead of the other, and 0, if they are the same.
func compare(a, b api.Key) int {
	return cmp.Or(cmp.Compare(a.Account, b.Account), cmp.Compare(a.Asset, b.Asset))
}
