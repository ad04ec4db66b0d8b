package cycle

import (
	"slices"

	"custody/api"
)

// set is of wishes, by their places.
type set [api.MaxQueue / 64]uint64

func (s set) has(x int) bool { return s[x/64]>>(x%64)&1 == 1 }

// with is the set with one more.
func (s set) with(x int) set {
	s[x/64] |= 1 << (x % 64)
	return s
}

// joined is all of two sets.
func (s set) joined(t set) set {
	for at, places := range t {
		s[at] |= places
	}
	return s
}

// waits are, of each wish, those for whom it waits.
// Who isn't stuck lacks nothing, and waits for none: so it is in no ring, and may stand here as one who gives.
func waits(held holds, l []api.Wish) []set {
	lacking := make([][]api.Key, len(l)) // of each, the keys at which it lacks
	givers := map[api.Key]set{}          // who gives more to a key than it takes
	alone := gains{}                     // what keys get of the wish that is looked at
	for x, w := range l {
		alone.only(w)
		for k, gain := range alone {
			if gain.isAboveNought() {
				givers[k] = givers[k].with(x)
			}
			if held[k].lacks(gain) {
				lacking[x] = append(lacking[x], k)
			}
		}
	}
	out := make([]set, len(l))
	for x, keys := range lacking {
		for _, k := range keys {
			out[x] = out[x].joined(givers[k])
		}
	}
	return out
}

// reach is to whom one comes from each wish, going on from a wish to one for whom it waits.
func reach(next []set) []set {
	out := slices.Clone(next)
	for mid := range out { // behind each turn it is to whom one comes by way of none but the wishes up to mid
		for from := range out {
			if out[from].has(mid) {
				out[from] = out[from].joined(out[mid])
			}
		}
	}
	return out
}

// rings are the ids of the wishes of each ring, of wishes by rising ids: so they rise in a ring, and the rings stand by their least ones.
func rings(held holds, l []api.Wish) [][]int {
	var out [][]int
	comes := reach(waits(held, l))
	for x, first := range l {
		var ring []int
		for y, w := range l {
			if comes[x].has(y) && comes[y].has(x) {
				ring = append(ring, w.Id)
			}
		}
		if len(ring) > 0 && ring[0] == first.Id { // each ring is met once by each of its wishes
			out = append(out, ring)
		}
	}
	return out
}
