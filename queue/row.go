package queue

import (
	"cmp"
	"slices"

	"custody/api"
)

// What an entry is at any time.
const (
	idle = iota
	ready
	taken
)

// entry is an instruction that waits.
type entry struct {
	id      int
	came    int       // how many were put ahead of it, ever: its place in the order
	keys    []api.Key // each of them once
	state   int
	touched bool // since it was taken
}

// once are keys in memory of their own, each of them once; cloned, as the list that was sorted may have far more room.
func once(keys []api.Key) []api.Key {
	return slices.Clone(slices.Compact(slices.SortedFunc(slices.Values(keys), rising)))
}

func rising(a, b api.Key) int {
	return cmp.Or(cmp.Compare(a.Account, b.Account), cmp.Compare(a.Asset, b.Asset))
}

// row is entries in the order in which they were put.
type row []*entry

// place is where an entry stands, or would stand, and whether it is there.
func (r row) place(e *entry) (int, bool) {
	return slices.BinarySearchFunc(r, e, func(a, b *entry) int { return cmp.Compare(a.came, b.came) })
}

// with is the row with one more entry. The row that was is used up.
func (r row) with(e *entry) row {
	at, _ := r.place(e)
	return slices.Insert(r, at, e)
}

// without is the row without an entry, if that is there. The row that was is used up.
func (r row) without(e *entry) row {
	at, ok := r.place(e)
	switch {
	case !ok:
		return r
	case at == 0: // mostly the first leaves first: the others needn't move up for it
		r[0] = nil // its place would keep the entry else
		return r[1:]
	}
	return slices.Delete(r, at, at+1)
}

// ids are the ids of those that are so.
func (r row) ids(is func(e *entry) bool) []int {
	var l []int
	for _, e := range r {
		if is(e) {
			l = append(l, e.id)
		}
	}
	return l
}
