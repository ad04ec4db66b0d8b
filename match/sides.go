package match

import (
	"slices"
	"strings"

	"custody/api"
)

// state is what has become of a side.
type state int

const (
	open state = iota
	matched
	cancelled
)

// entry is a side in a book.
type entry struct {
	side  api.Side
	state state
	with  int  // the number of the one that it is matched with
	asked bool // its party wants the pair to be given up
}

// copied is a side whose texts and links are its own memory. (It has no Prev, as a cancellation is not taken.)
func copied(s api.Side) api.Side {
	n := &s.Notice
	for _, text := range []*string{&n.Ref, &n.Account, &n.Agent, &n.Other, &n.Currency} {
		*text = strings.Clone(*text)
	}
	n.Links = slices.Clone(n.Links)
	for at := range n.Links {
		n.Links[at].Ref = strings.Clone(n.Links[at].Ref)
	}
	return s
}

// waiting are the open sides of one kind, by their faces.
func (b *Book) waiting(receive bool) map[face][]int {
	if receive {
		return b.receivers
	}
	return b.deliverers
}

// faceOf is the face of a side that was taken.
func (b *Book) faceOf(s api.Side) face { return faceOf(s.Notice, b.offices[s.Party]) }

// partner is the open side of the least number that fits with this one. If its party is nobody, there is none: in the face of every other side somebody stands there, an Agent that was taken.
func (b *Book) partner(s api.Side) (int, bool) {
	for _, other := range b.waiting(!s.Notice.Receive)[b.faceOf(s)] {
		if isNear(s.Notice, b.sides[other].side.Notice, b.tolerance) {
			return other, true
		}
	}
	return 0, false
}

// wait puts a side, the newest, among the open ones.
func (b *Book) wait(number int) {
	s := b.sides[number].side
	shown, of := b.faceOf(s), b.waiting(s.Notice.Receive)
	of[shown] = append(of[shown], number)
}

// leave takes a side out of the open ones. Those ahead of it move up by one: so much was gone through to find it, and of many that wait the first mostly goes first.
func (b *Book) leave(number int) {
	s := b.sides[number].side
	shown, of := b.faceOf(s), b.waiting(s.Notice.Receive)
	l := of[shown]
	if len(l) == 1 {
		delete(of, shown)
		return
	}
	at, _ := slices.BinarySearch(l, number)
	copy(l[1:at+1], l[:at])
	of[shown] = l[1:]
}

// tie makes a pair of two sides: its number.
func (b *Book) tie(number, other int) int {
	for _, x := range [][2]int{{number, other}, {other, number}} {
		b.sides[x[0]].state, b.sides[x[0]].with = matched, x[1]
	}
	deliver, receive := number, other
	if b.sides[number].side.Notice.Receive {
		deliver, receive = other, number
	}
	b.pairs = append(b.pairs, api.Pair{Deliver: deliver, Receive: receive, Amount: worth(b.sides[deliver].side.Notice)})
	return len(b.pairs) - 1
}

// openOf are the numbers of the open sides that are wanted, rising.
func (b *Book) openOf(isWanted func(s api.Side) bool) []int {
	var l []int
	for number, x := range b.sides {
		if x.state == open && isWanted(x.side) {
			l = append(l, number)
		}
	}
	return l
}
