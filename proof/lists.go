package proof

import "slices"

// Room is a copy of a list, with spare room behind it that is filled with junk.
func Room[T any](l []T, junk T) []T {
	return append(slices.Clone(l), junk, junk, junk)[:len(l)]
}

// Whole is a list with its spare room.
func Whole[T any](l []T) []T { return l[:cap(l)] }

// Overwrite overwrites a list, and its spare room.
func Overwrite[T any](l []T, junk T) { spoil(Whole(l), junk) }
