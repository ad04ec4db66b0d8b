package proof

import (
	"slices"

	"custody/api"
)

// Balance is a position under the key of an account and an asset.
func Balance(account, asset int, p api.Position) api.Balance {
	return api.Balance{Key: api.Key{Account: account, Asset: asset}, Position: p}
}

// SameBalances tells whether two lists of balances are the same; nil and empty lists are the same.
func SameBalances(a, b []api.Balance) bool {
	return slices.EqualFunc(a, b, func(x, y api.Balance) bool { return x.Key == y.Key && SamePosition(x.Position, y.Position) })
}

func junkBalance() api.Balance { return api.Balance{Key: junkKey(), Position: Position(-81, 82, 83)} }

// RoomyBalances is a copy of balances that has, as their marks have, spare room with junk in it.
func RoomyBalances(l []api.Balance) []api.Balance {
	out := Room(l, junkBalance())
	for i, x := range out {
		out[i].Position.Marks = Room(x.Position.Marks, junkMark())
	}
	return out
}

// WholeBalances is a copy of balances in which the spare room, that of their marks too, is seen.
func WholeBalances(l []api.Balance) []api.Balance {
	out := slices.Clone(Whole(l))
	for i, x := range out {
		out[i].Position.Marks = slices.Clone(Whole(x.Position.Marks))
	}
	return out
}

// OverrunBalances fills the spare room of balances, and of their marks, as one who was given them may. If two lists shared memory, one would be changed.
func OverrunBalances(l []api.Balance) {
	for _, x := range l {
		spoil(spare(x.Position.Marks), junkMark())
	}
	spoil(spare(l), junkBalance())
}

// SpoilBalances overwrites balances, their marks, and the spare room of both.
func SpoilBalances(l []api.Balance) {
	for _, x := range l {
		spoil(Whole(x.Position.Marks), junkMark())
	}
	spoil(Whole(l), junkBalance())
}
