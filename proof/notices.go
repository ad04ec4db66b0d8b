package proof

import (
	"slices"

	"custody/api"
)

// SameNotice tells whether two notices are the same; no links and an empty list are.
func SameNotice(a, b api.Notice) bool {
	return textsOf(a) == textsOf(b) && numbersOf(a) == numbersOf(b) && a.Code == b.Code && slices.Equal(a.Links, b.Links)
}

func textsOf(n api.Notice) [6]string {
	return [6]string{n.Ref, n.Prev, n.Account, n.Agent, n.Other, n.Currency}
}

func numbersOf(n api.Notice) [8]int64 {
	return [8]int64{bit(n.Cancel), bit(n.Receive), bit(n.Pay), int64(n.Trade), int64(n.Settle), n.Qty, n.Amount, int64(n.Priority)}
}

func bit(b bool) int64 {
	if b {
		return 1
	}
	return 0
}

func junkLink() api.Link { return api.Link{Kind: -94, Ref: "junk"} }

// RoomyNotice is a notice with spare room behind its links.
func RoomyNotice(n api.Notice) api.Notice {
	n.Links = Room(n.Links, junkLink())
	return n
}

// SpoilNotice writes over a notice's links and their spare room.
func SpoilNotice(n api.Notice) { spoil(Whole(n.Links), junkLink()) }
