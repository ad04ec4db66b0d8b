package cycle

import (
	"slices"

	"custody/api"
	"custody/balance"
)

// hold is what is held under a key: what of it is free, and all of it.
type hold struct{ free, total wide }

// lacks tells whether more is taken than is free.
func (h hold) lacks(gain wide) bool { return h.free.plus(gain).isBelowNought() }

// overflows tells whether there would be too much.
func (h hold) overflows(gain wide) bool { return h.total.plus(gain).isTooMuch() }

func (h hold) fits(gain wide) bool { return !h.lacks(gain) && !h.overflows(gain) }

// holds are what is held under the keys that wishes name.
type holds map[api.Key]hold

func holdsOf(b []api.Balance, keys []api.Key) holds {
	held := holds{}
	for _, k := range keys {
		if at, ok := place(b, k); ok {
			held[k] = hold{widened(b[at].Position.Avail), widened(balance.Total(b[at].Position))}
		}
	}
	return held
}

// place is where the balance of a key stands, or would stand, and whether it is there.
func place(b []api.Balance, k api.Key) (int, bool) {
	return slices.BinarySearchFunc(b, k, func(x api.Balance, k api.Key) int { return compare(x.Key, k) })
}
