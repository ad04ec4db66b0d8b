package dvp_test

import (
	"slices"
	"testing"

	"custody/api"
	"custody/dvp"
	"custody/proof"
)

// someOps are operations of each kind, right and wrong, done and refused in the cells of someCells.
func someOps() []api.Op {
	ops := []api.Op{
		held(1, 0, 1, 1), held(1, 1, 1, 1), held(2, 0, 1, 1), held(2, 0, 1, 6), marked(3, 2, 0, 1, 7), marked(3, 2, 0, 1, 5), marked(4, 2, 0, 1, 7), marked(4, 2, 0, 4, 7),
		swap(8, 5, 9), swap(8, 6, 9), swap(4, 5, 9), swap(0, 5, 9), submit(8), ided(6, 4), ided(6, 5), ided(6, 8), ided(7, 4), ided(7, 8), snapshot(), snapshot(2, 0, 0, 1, 2, 0), snapshot(-1, 0),
	}
	for code := range 10 {
		ops = append(ops, full(code))
	}
	return ops
}

func someCells() cells {
	return ready().records(4, api.Pending, swap(4, 5, 9).Legs...).records(5, api.Settled, leg(0, 1, 1, 1, 0)).records(6, api.Pending, leg(0, 1, 1, 6, 0))
}

// R4: operations and legs that are handed in are not changed, their spare room included.
func TestArgumentsStay(t *testing.T) {
	for _, of := range someOps() {
		o := proof.RoomyOp(of)
		legs, pairs := slices.Clone(proof.Whole(o.Legs)), slices.Clone(proof.Whole(o.Pairs))
		dvp.Keys(o)
		dvp.LegKeys(o.Id, o.Legs)
		dvp.Covered(open(someCells()), o.Legs)
		dvp.Move(open(someCells()), o.Legs)
		dvp.Apply(open(someCells()), o, true)
		dvp.Apply(open(someCells()), o, false)
		if !proof.SameOp(o, of) || !slices.Equal(proof.Whole(o.Legs), legs) || !slices.Equal(proof.Whole(o.Pairs), pairs) {
			t.Errorf("%+v became %+v", of, o)
		}
	}
}

// R4: keys are new memory: neither an argument nor another answer has a part of them.
func TestKeysAreNew(t *testing.T) {
	for _, of := range someOps() {
		o := proof.RoomyOp(of)
		for _, ask := range []func() []api.Key{
			func() []api.Key { return dvp.Keys(o) },
			func() []api.Key { return dvp.LegKeys(o.Id, o.Legs) },
		} {
			want := slices.Clone(ask())
			one, two := ask(), ask()
			proof.SpoilKeys(one)
			if !slices.Equal(two, want) || !proof.SameOp(o, of) || !slices.Equal(ask(), want) {
				t.Errorf("the keys of %+v are shared", of)
			}
		}
		want := dvp.Keys(of)
		two := dvp.Keys(o)
		proof.SpoilOp(o)
		if !slices.Equal(two, want) {
			t.Errorf("the keys of %+v hang on it", of)
		}
	}
}

// keeper is a view that keeps what is put to it as it comes.
type keeper struct {
	cells
	puts []api.Cell
}

func (k *keeper) Get(at api.Key) api.Cell { return k.cells[at] }

func (k *keeper) Put(at api.Key, c api.Cell) {
	k.cells[at] = c
	k.puts = append(k.puts, c)
}

// calls are those that may put, of an operation or of the record of its id.
func calls() []func(v dvp.View, o api.Op) []api.Key {
	return []func(v dvp.View, o api.Op) []api.Key{
		func(v dvp.View, o api.Op) []api.Key { _, l := dvp.Apply(v, o, true); return l },
		func(v dvp.View, o api.Op) []api.Key { l, _ := dvp.Settle(v, o.Id); return l },
		func(v dvp.View, o api.Op) []api.Key { dvp.Move(v, o.Legs); return nil },
	}
}

// R4: what is put is new memory: no operation, no cell that was told, no other cell that was put, and no answer has a part of it.
func TestPutIsNew(t *testing.T) {
	put := 0
	for _, of := range someOps() {
		for _, call := range calls() {
			want := &keeper{cells: someCells()}
			keys := call(want, of)

			for at := range want.puts {
				c := cells{}
				for k, x := range someCells() {
					c[k] = proof.RoomyCell(x)
				}
				o := proof.RoomyOp(of)
				v := &keeper{cells: c.copied()}
				for k := range c {
					v.cells[k] = c[k] // Get hands out the very memory of c
				}
				got := call(v, o)
				proof.SpoilCell(v.puts[at])
				if put++; !proof.SameOp(o, of) || !c.equal(someCells()) || !slices.Equal(got, keys) {
					t.Errorf("what %+v puts is shared with what was handed in", of)
				}
				for n, x := range v.puts {
					if n != at && !proof.SameCell(x, want.puts[n]) {
						t.Errorf("what %+v puts at %d and %d is shared", of, at, n)
					}
				}
				call(&keeper{cells: someCells()}, of)
				proof.SpoilOp(o)
				proof.SpoilKeys(got)
				for n, x := range v.puts {
					if n != at && !proof.SameCell(x, want.puts[n]) {
						t.Errorf("what %+v puts at %d hangs on what was handed in, or on the answer", of, n)
					}
				}
			}
		}
	}
	if put < 30 {
		t.Errorf("only %d were put", put)
	}
}

// TestPutKeepsNothingTold: cells that are put hang on no memory that Get told.
func TestPutKeepsNothingTold(t *testing.T) {
	for _, of := range someOps() {
		for _, call := range calls() {
			want := &keeper{cells: someCells()}
			call(want, of)
			c := someCells()
			v := &keeper{cells: cells{}}
			for k := range c {
				v.cells[k] = c[k]
			}
			call(v, of)
			for _, x := range c {
				proof.SpoilCell(x)
			}
			for n, x := range v.puts {
				if !proof.SameCell(x, want.puts[n]) {
					t.Errorf("what %+v puts hangs on what was told: %+v", of, x)
				}
			}
		}
	}
}

// fleeting is a view that tells all cells in one piece of memory: what it told last is gone when it is asked again.
type fleeting struct {
	*books
	told api.Cell
}

func (f *fleeting) Get(k api.Key) api.Cell {
	proof.SpoilCell(f.told)
	f.told = f.books.Get(k)
	return f.told
}

func (f *fleeting) Put(k api.Key, c api.Cell) {
	proof.SpoilCell(f.told)
	f.books.Put(k, c)
}

// TestNothingIsKept: what Get told is not used behind the next question.
func TestNothingIsKept(t *testing.T) {
	for _, o := range someOps() {
		for _, call := range calls() {
			v, f := open(someCells()), &fleeting{books: open(someCells())}
			want, got := call(v, o), call(f, o)
			if !slices.Equal(got, want) || !f.books.cells.equal(v.cells) {
				t.Errorf("%+v leaves %+v, %v; want %+v, %v", o, f.books.cells, got, v.cells, want)
			}
		}
	}
}

// R3: no legs and an empty list of them are the same, and so it is with pairs and marks, and with lists in cells.
func TestNoLists(t *testing.T) {
	for code := range 10 {
		for _, o := range []api.Op{{Code: code, Id: 4}, {Code: code, Id: 4, Legs: []api.Leg{}, Pairs: []api.Key{}}, {Code: code, Id: 4, Legs: make([]api.Leg, 0, 5), Pairs: make([]api.Key, 0, 5)}} {
			if got := dvp.Keys(o); !slices.Equal(got, opKeys(o)) {
				t.Errorf("Keys(%+v) are %v", o, got)
			}
			applies(t, someCells(), o, true)
			moves(t, someCells(), o.Legs)
		}
	}
	for _, marks := range [][]api.Mark{nil, {}, make([]api.Mark, 0, 3)} {
		for _, legs := range [][]api.Leg{nil, {}, make([]api.Leg, 0, 3)} {
			c := cells{key(0, 1): {Position: api.Position{Avail: 5, Marks: marks}, Record: api.Record{Legs: legs}}, key(-1, 8): {Position: api.Position{Marks: marks}, Record: api.Record{Legs: legs}}}
			for _, o := range []api.Op{held(1, 0, 1, 1), marked(3, 0, 1, 5, 7), submit(8, leg(0, 1, 1, 5, 0)), submit(8, leg(0, 1, 1, 6, 0)), ided(6, 8), ided(7, 8)} {
				applies(t, c, o, true)
			}
			settles(t, c, 8)
		}
	}
}

// R5: what is answered hangs on the arguments, and on what the view holds, alone: not on calls ahead of it, not on how much room a list has.
func TestSameEachTime(t *testing.T) {
	for _, of := range someOps() {
		v, w := open(someCells()), open(someCells())
		a, l := dvp.Apply(v, of, true)
		dvp.Apply(open(rich()), swap(3, 1, 1), true)
		dvp.Settle(open(someCells()), 4)
		dvp.Move(open(rich()), of.Legs)
		b, m := dvp.Apply(w, proof.RoomyOp(of), true)
		if !proof.SameAnswer(a, b) || !slices.Equal(l, m) || !v.cells.equal(w.cells) {
			t.Errorf("Apply(%+v) is %+v, %v, then %+v, %v", of, a, l, b, m)
		}
		if first, second := dvp.Covered(v, of.Legs), dvp.Covered(w, of.Legs); numberOf(first) != numberOf(second) {
			t.Errorf("Covered(%+v) is %v, then %v", of.Legs, first, second)
		}
	}
}
