package cycle

import (
	"slices"

	"custody/api"
	"custody/balance"
)

// scales weigh wishes against what is held.
type scales struct {
	keys []api.Key // that the wishes name, rising
	held holds
	gets gains // what the keys get of the wishes that are in
}

// scalesOf are scales in which all wishes are in.
func scalesOf(b []api.Balance, l []api.Wish) scales {
	gets := gainsOf(l)
	keys := gets.keys()
	return scales{keys, holdsOf(b, keys), gets}
}

// against is the first key that stands against the wishes that are in; false: they settle together.
func (s scales) against() (api.Key, bool) {
	for _, k := range s.keys {
		if !s.held[k].fits(s.gets[k]) {
			return k, true
		}
	}
	return api.Key{}, false
}

// check is what stands against the wishes that are in; what one key lacks is told ahead of what is too much under any other.
func (s scales) check() error {
	isSomewhere := func(is func(h hold, gain wide) bool) bool {
		return slices.ContainsFunc(s.keys, func(k api.Key) bool { return is(s.held[k], s.gets[k]) })
	}
	switch {
	case isSomewhere(hold.lacks):
		return api.ErrCover
	case isSomewhere(hold.overflows):
		return api.ErrOver
	}
	return nil
}

// settled are the balances behind the wishes that are in; these settle together.
func (s scales) settled(b []api.Balance) []api.Balance {
	var out []api.Balance
	for _, x := range b {
		x.Position.Marks = slices.Clone(x.Position.Marks)
		out = append(out, x)
	}
	for _, k := range s.keys {
		if _, ok := place(b, k); !ok {
			out = append(out, api.Balance{Key: k})
		}
	}
	for at, x := range out {
		out[at].Position.Avail, _ = widened(x.Position.Avail).plus(s.gets[x.Key]).narrowed()
	}
	slices.SortFunc(out, func(x, y api.Balance) int { return compare(x.Key, y.Key) })
	return slices.DeleteFunc(out, func(x api.Balance) bool { return balance.Total(x.Position) == 0 })
}
