package proof

import "slices"

// Room is a copy of a list, with spare room behind it that is filled with junk.
func Room[T any](l []T, junk T) []T {
	return append(slices.Clone(l), junk, junk, junk)[:len(l)]
}

// Whole is a list with its spare room.
func Whole[T any](l []T) []T { return l[:cap(l)] }

// Overwrite overwrites a list, and its spare room.
func Overwrite[T any](l []T, junk T) { spoil(Whole(l), junk) }

// Shuffle puts things into any order.
func Shuffle[T any](d *Dice, l []T) {
	for at := range l {
		other := at + d.Below(len(l)-at)
		l[at], l[other] = l[other], l[at]
	}
}

// SameLists tells whether two lists of lists are the same; nil and empty lists are the same.
func SameLists[T comparable](a, b [][]T) bool { return slices.EqualFunc(a, b, slices.Equal[[]T]) }

// CopyLists is a copy of lists, and of those in them.
func CopyLists[T any](l [][]T) [][]T {
	var out [][]T
	for _, x := range l {
		out = append(out, slices.Clone(x))
	}
	return out
}

// OverrunLists fills the spare room of lists, and of those in them, as one who was given them may: if two of them shared memory, one would be changed.
func OverrunLists[T any](l [][]T, junk T) {
	for _, x := range l {
		spoil(spare(x), junk)
	}
	spoil(spare(l), []T{junk})
}

// SpoilLists overwrites lists, those in them, and their spare room.
func SpoilLists[T any](l [][]T, junk T) {
	for _, x := range l {
		Overwrite(x, junk)
	}
	Overwrite(l, []T{junk})
}

// spare is a list's spare room.
func spare[T any](l []T) []T { return l[len(l):cap(l)] }
