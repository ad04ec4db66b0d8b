package proof

import (
	"maps"
	"math/big"
	"slices"

	"custody/api"
)

// State is a book's state once more, as the document's words say it.
func (b *Book) State() api.State {
	s := api.State{Queue: slices.Clone(b.Queue)}
	for k := range b.Held {
		s.Balances = append(s.Balances, api.Balance{Key: k, Position: b.Position(k)})
	}
	slices.SortFunc(s.Balances, func(x, y api.Balance) int {
		if Behind(y.Key, x.Key) {
			return -1
		}
		return 1
	})
	for _, id := range slices.Sorted(maps.Keys(b.Records)) {
		s.Instructions = append(s.Instructions, api.Instruction{Id: id, Record: api.Record{Status: b.Records[id].Status, Legs: slices.Clone(b.Records[id].Legs)}})
	}
	return s
}

// BookOf is a book that holds a state which is right.
func BookOf(s api.State) *Book {
	b := NewBook()
	for _, x := range s.Balances {
		b.Lay(x.Key, x.Position)
	}
	for _, x := range s.Instructions {
		b.Records[x.Id] = api.Record{Status: x.Record.Status, Legs: slices.Clone(x.Record.Legs)}
	}
	b.Queue = slices.Clone(s.Queue)
	return b
}

// Behind tells whether the first key stands behind the other.
func Behind(a, b api.Key) bool {
	return a.Account > b.Account || a.Account == b.Account && a.Asset > b.Asset
}

// Ready are the instructions that could settle now, in the order of the queue: each is tried in a book of its own.
func (b *Book) Ready() []int {
	var l []int
	for _, id := range b.Queue {
		if b.Copy().Settle(id) {
			l = append(l, id)
		}
	}
	return l
}

// Drain settles the first of Ready, again and again, till there is none.
func (b *Book) Drain() []int {
	var l []int
	for ready := b.Ready(); len(ready) > 0; ready = b.Ready() {
		b.Settle(ready[0])
		l = append(l, ready[0])
	}
	return l
}

// Sum is how much of an asset is held under all keys.
func (b *Book) Sum(asset int) *big.Int {
	sum := new(big.Int)
	for k := range b.Held {
		if k.Asset == asset {
			sum.Add(sum, new(big.Int).SetUint64(b.Total(k)))
		}
	}
	return sum
}

// Wide is the number that a high and a low word tell.
func Wide(high, low uint64) *big.Int {
	n := new(big.Int).SetUint64(high)
	return n.Lsh(n, 64).Add(n, new(big.Int).SetUint64(low))
}

// SameState tells whether two states are the same; nil and empty lists are the same.
func SameState(a, b api.State) bool {
	return SameBalances(a.Balances, b.Balances) &&
		slices.EqualFunc(a.Instructions, b.Instructions, func(x, y api.Instruction) bool { return x.Id == y.Id && SameRecord(x.Record, y.Record) }) &&
		slices.Equal(a.Queue, b.Queue)
}

const junkId = -80

func junkInstruction() api.Instruction {
	return api.Instruction{Id: junkId, Record: api.Record{Status: -84, Legs: []api.Leg{junkLeg()}}}
}

// RoomyState is a copy of a state whose lists, and those in them, have spare room with junk in it.
func RoomyState(s api.State) api.State {
	out := api.State{Balances: RoomyBalances(s.Balances), Instructions: Room(s.Instructions, junkInstruction()), Queue: Room(s.Queue, junkId)}
	for i, x := range out.Instructions {
		out.Instructions[i].Record.Legs = Room(x.Record.Legs, junkLeg())
	}
	return out
}

// WholeState is a copy of a state in whose lists, and those in them, the spare room is seen too.
func WholeState(s api.State) api.State {
	out := api.State{Balances: WholeBalances(s.Balances), Instructions: slices.Clone(Whole(s.Instructions)), Queue: slices.Clone(Whole(s.Queue))}
	for i, x := range out.Instructions {
		out.Instructions[i].Record.Legs = slices.Clone(Whole(x.Record.Legs))
	}
	return out
}

// OverrunState fills the spare room of a state's lists, and of those in them, as one who was given it may. If two of them shared memory, one would be changed.
func OverrunState(s api.State) {
	OverrunBalances(s.Balances)
	for _, x := range s.Instructions {
		spoil(spare(x.Record.Legs), junkLeg())
	}
	spoil(spare(s.Instructions), junkInstruction())
	spoil(spare(s.Queue), junkId)
}

// SpoilState overwrites a state's lists, those in them, and their spare room.
func SpoilState(s api.State) {
	SpoilBalances(s.Balances)
	for _, x := range s.Instructions {
		spoil(Whole(x.Record.Legs), junkLeg())
	}
	spoil(Whole(s.Instructions), junkInstruction())
	spoil(Whole(s.Queue), junkId)
}

func junkPosition() api.Position { return Position(-85, 86, 87) }

// RoomyAnswer is a copy of an answer whose lists, and those in them, have spare room with junk in it.
func RoomyAnswer(a api.Answer) api.Answer {
	a.Positions = Room(a.Positions, junkPosition())
	for i, p := range a.Positions {
		a.Positions[i].Marks = Room(p.Marks, junkMark())
	}
	return a
}

// WholeAnswer is a copy of an answer in whose lists, and those in them, the spare room is seen too.
func WholeAnswer(a api.Answer) api.Answer {
	a.Positions = slices.Clone(Whole(a.Positions))
	for i, p := range a.Positions {
		a.Positions[i].Marks = slices.Clone(Whole(p.Marks))
	}
	return a
}

// OverrunAnswer fills the spare room of an answer's lists, as one who was given it may.
func OverrunAnswer(a api.Answer) {
	for _, p := range a.Positions {
		spoil(spare(p.Marks), junkMark())
	}
	spoil(spare(a.Positions), junkPosition())
}

// SpoilAnswer overwrites an answer's lists, those in them, and their spare room.
func SpoilAnswer(a api.Answer) {
	for _, p := range a.Positions {
		spoil(Whole(p.Marks), junkMark())
	}
	spoil(Whole(a.Positions), junkPosition())
}
