package proof

import (
	"slices"

	"custody/api"
)

// Position is one: so much is free, then names and quantities of marks.
func Position(avail int64, marks ...int64) api.Position {
	p := api.Position{Avail: avail}
	for i := 0; i < len(marks); i += 2 {
		p.Marks = append(p.Marks, api.Mark{Name: int(marks[i]), Qty: marks[i+1]})
	}
	return p
}

// SamePosition tells whether two positions are the same; nil and empty lists are the same.
func SamePosition(a, b api.Position) bool {
	return a.Avail == b.Avail && slices.Equal(a.Marks, b.Marks)
}

// Held is an operation of this code that turns what is held.
func Held(code, account, asset int, qty int64) api.Op {
	return api.Op{Code: code, Account: account, Asset: asset, Qty: qty}
}

// Marked is an operation of this code that turns a mark.
func Marked(code, account, asset int, qty int64, name int) api.Op {
	return api.Op{Code: code, Account: account, Asset: asset, Qty: qty, Name: name}
}

// Leg is one.
func Leg(from, to, asset int, qty int64, name int) api.Leg {
	return api.Leg{From: from, To: to, Asset: asset, Qty: qty, Name: name}
}

// Submit is an operation with these legs.
func Submit(id int, legs ...api.Leg) api.Op {
	return api.Op{Code: api.OpSubmit, Id: id, Legs: legs}
}

// Identified is an operation of this code that has an id alone.
func Identified(code, id int) api.Op { return api.Op{Code: code, Id: id} }

// Keys are keys, told by their accounts and assets.
func Keys(l ...int) []api.Key {
	var out []api.Key
	for i := 0; i < len(l); i += 2 {
		out = append(out, api.Key{Account: l[i], Asset: l[i+1]})
	}
	return out
}

// Snapshot is an operation of pairs, told by their accounts and assets.
func Snapshot(pairs ...int) api.Op { return api.Op{Code: api.OpSnapshot, Pairs: Keys(pairs...)} }

// SameOp tells whether two operations are the same; nil and empty lists are the same.
func SameOp(a, b api.Op) bool {
	return a.Code == b.Code && a.Account == b.Account && a.Asset == b.Asset && a.Qty == b.Qty && a.Name == b.Name && a.Id == b.Id &&
		slices.Equal(a.Legs, b.Legs) && slices.Equal(a.Pairs, b.Pairs)
}

// SameAnswer tells whether two answers are the same; nil and empty lists are the same.
func SameAnswer(a, b api.Answer) bool {
	return a.Err == b.Err && a.Status == b.Status && slices.EqualFunc(a.Positions, b.Positions, SamePosition)
}

// SameRecord tells whether two records are the same; nil and empty lists are the same.
func SameRecord(a, b api.Record) bool { return a.Status == b.Status && slices.Equal(a.Legs, b.Legs) }

// SameCell tells whether two cells are the same; nil and empty lists are the same.
func SameCell(a, b api.Cell) bool {
	return SamePosition(a.Position, b.Position) && SameRecord(a.Record, b.Record)
}

func junkLeg() api.Leg { return Leg(-71, -72, -73, -74, -75) }

func junkKey() api.Key { return api.Key{Account: -76, Asset: -77} }

func junkMark() api.Mark { return api.Mark{Name: 78, Qty: 79} }

// RoomyOp is a copy of an operation whose lists have spare room with junk in it.
func RoomyOp(o api.Op) api.Op {
	o.Legs, o.Pairs = Room(o.Legs, junkLeg()), Room(o.Pairs, junkKey())
	return o
}

// SpoilOp overwrites an operation's lists, and their spare room.
func SpoilOp(o api.Op) {
	spoil(Whole(o.Legs), junkLeg())
	spoil(Whole(o.Pairs), junkKey())
}

// RoomyCell is a copy of a cell whose lists have spare room with junk in it.
func RoomyCell(c api.Cell) api.Cell {
	c.Position.Marks, c.Record.Legs = Room(c.Position.Marks, junkMark()), Room(c.Record.Legs, junkLeg())
	return c
}

// SpoilCell overwrites a cell's lists, and their spare room.
func SpoilCell(c api.Cell) {
	spoil(Whole(c.Position.Marks), junkMark())
	spoil(Whole(c.Record.Legs), junkLeg())
}

// SpoilKeys overwrites keys, and their spare room.
func SpoilKeys(l []api.Key) { spoil(Whole(l), junkKey()) }
