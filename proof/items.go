package proof

import (
	"slices"

	"custody/api"
)

// SameItems tells whether two lists hold the same; nil and empty are the same.
func SameItems(a, b []api.Item) bool { return slices.EqualFunc(a, b, SameItem) }

// SameItem tells whether two items are the same.
func SameItem(a, b api.Item) bool {
	return a.Tag == b.Tag && a.Qual == b.Qual && a.Text == b.Text && a.Name == b.Name && SameItems(a.Items, b.Items)
}

// spareItems is how much spare room Roomy leaves behind each list.
const spareItems = 2

// junk is what spare room is filled with.
func junk() api.Item { return api.Item{Tag: "junk", Text: "junk", Items: []api.Item{{Name: "junk"}}} }

// Roomy is a copy of a list, and of all lists in it, each with spare room behind it that is filled with junk.
func Roomy(l []api.Item) []api.Item {
	out := make([]api.Item, 0, len(l)+spareItems)
	for _, x := range l {
		x.Items = Roomy(x.Items)
		out = append(out, x)
	}
	fill(out)
	return out
}

func fill(l []api.Item) {
	spare := l[len(l):cap(l)]
	for i := range spare {
		spare[i] = junk()
	}
}

// Untouched tells whether the spare room of each list is as Roomy left it.
func Untouched(l []api.Item) bool {
	for _, x := range l[len(l):cap(l)] {
		if !SameItem(x, junk()) {
			return false
		}
	}
	for _, x := range l {
		if !Untouched(x.Items) {
			return false
		}
	}
	return cap(l) == len(l)+spareItems
}

// Overrun fills the spare room of each list, as one who was given it may. If two lists shared memory, one of them would be changed.
func Overrun(l []api.Item) {
	for _, x := range l {
		Overrun(x.Items)
	}
	fill(l)
}

// Spoil overwrites a list, all lists in it, and their spare room.
func Spoil(l []api.Item) {
	l = l[:cap(l)]
	for i := range l {
		Spoil(l[i].Items)
		l[i] = junk()
	}
}
