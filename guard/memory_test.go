package guard_test

import (
	"slices"
	"testing"

	"custody/api"
	"custody/guard"
	"custody/proof"
)

const junkNumber = 7777

var (
	roomy = proof.RoomyOp
	spoil = proof.SpoilOp
)

// someRows are rows of each kind, right and wrong.
func someRows() [][]int64 {
	rows := [][]int64{nil, {}, {0}, {9, 1, 2}, {1, 0}, {1, 0, 0, 1, 5}, {5}, {5, 1, 0}, {8, 0}, {6}, {7, 1, 2}}
	for code := 1; code <= 8; code++ {
		row, _ := rowOf(filled(code))
		rows = append(rows, row)
	}
	return append(rows, behind(5, 1), behind(5, 6), behind(5, 16), behind(5, 26), behind(8, 0), behind(8, 2), behind(8, 130))
}

// someOps are operations of each kind, right and wrong.
func someOps() []api.Op {
	ops := []api.Op{submit(1), submit(1, leg(0, 1, 0, 1, 0)), submit(1, leg(0, 1, 0, 1, 0), leg(1, 0, 1, 5, 7)), submit(0, leg(0, 1, 0, 1, 0)), submit(1, times(9, leg(0, 1, 0, 1, 0))...), snapshot(), snapshot(0, 0), snapshot(2, 1, 0, 0), snapshot(3, 0)}
	for code := range 11 {
		ops = append(ops, api.Op{Code: code}, filled(code))
	}
	return ops
}

// R4: rows that are read are not changed, their spare room included.
func TestDecodeLeavesTheRow(t *testing.T) {
	for _, of := range someRows() {
		raw := proof.Room(of, junkNumber)
		all := slices.Clone(proof.Whole(raw))
		guard.Decode(raw)
		if !slices.Equal(proof.Whole(raw), all) {
			t.Errorf("Decode changed %d to %d", all, proof.Whole(raw))
		}
	}
}

// R4: operations that are written or looked at are not changed, their lists' spare room included.
func TestOperationsStay(t *testing.T) {
	for _, of := range someOps() {
		o := roomy(of)
		legs, pairs := slices.Clone(proof.Whole(o.Legs)), slices.Clone(proof.Whole(o.Pairs))
		guard.Encode(o)
		guard.Check(small(), o)
		guard.Check(api.Config{Accounts: 1000, Assets: 1000}, o)
		if !same(o, of) || !slices.Equal(proof.Whole(o.Legs), legs) || !slices.Equal(proof.Whole(o.Pairs), pairs) {
			t.Errorf("%+v became %+v", of, o)
		}
	}
}

// R4: what Decode answers is new memory: neither the row nor another answer has a part of it.
func TestDecodedIsNew(t *testing.T) {
	for _, of := range someRows() {
		want, no := opOf(of)
		raw := proof.Room(of, junkNumber)
		all := slices.Clone(proof.Whole(raw))
		one, _ := guard.Decode(raw)
		two, _ := guard.Decode(raw)
		spoil(one)
		if !slices.Equal(proof.Whole(raw), all) || !same(two, want) {
			t.Errorf("the answer of Decode(%d) is shared", of)
		}
		proof.Overwrite(raw, junkNumber)
		if !same(two, want) {
			t.Errorf("the answer of Decode(%d) hangs on its row", of)
		}
		spoil(two)
		if again, err := guard.Decode(of); !same(again, want) || !proof.Tells(err, no) {
			t.Errorf("Decode(%d) became %+v, %v", of, again, err)
		}
	}
}

// R4: what Encode answers is new memory: who is given it may do with it, and behind it, what he likes.
func TestEncodedIsNew(t *testing.T) {
	for _, of := range someOps() {
		want, no := rowOf(of)
		o := roomy(of)
		one, _ := guard.Encode(o)
		two, _ := guard.Encode(o)
		proof.Overwrite(one, junkNumber)
		_ = append(one, junkNumber, junkNumber)
		if !same(o, of) || !slices.Equal(two, want) {
			t.Errorf("the answer of Encode(%+v) is shared", of)
		}
		spoil(o)
		if !slices.Equal(two, want) {
			t.Errorf("the answer of Encode(%+v) hangs on its argument", of)
		}
		proof.Overwrite(two, junkNumber)
		if again, err := guard.Encode(of); !slices.Equal(again, want) || !proof.Tells(err, no) {
			t.Errorf("Encode(%+v) became %d, %v", of, again, err)
		}
	}
}

// R3: no legs and an empty list of them are the same, and so it is with pairs.
func TestNoLists(t *testing.T) {
	for code := range 10 {
		for _, o := range []api.Op{{Code: code, Id: 1}, {Code: code, Id: 1, Legs: []api.Leg{}, Pairs: []api.Key{}}, {Code: code, Id: 1, Legs: make([]api.Leg, 0, 5), Pairs: make([]api.Key, 0, 5)}} {
			encodes(t, o)
			checks(t, small(), o)
		}
	}
}

// R5: what is answered hangs on the arguments alone: not on calls ahead of it, not on how much room a list has.
func TestSameEachTime(t *testing.T) {
	for _, of := range someRows() {
		one, first := guard.Decode(of)
		guard.Decode([]int64{5, 9, 1, 2, 3, 4, 5})
		two, second := guard.Decode(proof.Room(of, junkNumber))
		if !same(one, two) || first != second {
			t.Errorf("Decode(%d) is %+v, %v, then %+v, %v", of, one, first, two, second)
		}
	}
	for _, of := range someOps() {
		one, first := guard.Encode(of)
		looked := guard.Check(small(), of)
		guard.Encode(filled(api.OpSubmit))
		guard.Check(api.Config{}, filled(api.OpSubmit))
		two, second := guard.Encode(roomy(of))
		if again := guard.Check(small(), roomy(of)); !slices.Equal(one, two) || first != second || looked != again {
			t.Errorf("%+v is %d, %v, %v, then %d, %v, %v", of, one, first, looked, two, second, again)
		}
	}
}
