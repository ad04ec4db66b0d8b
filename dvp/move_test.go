package dvp_test

import (
	"math"
	"slices"
	"testing"

	"custody/api"
	"custody/balance"
	"custody/dvp"
	"custody/proof"
)

// P17.3, P17.4

// wrongLegs are lists of legs that are not taken, each with what is wrong.
func wrongLegs() []struct {
	legs []api.Leg
	no   api.Errno
} {
	right := leg(0, 1, 0, 1, 0)
	return []struct {
		legs []api.Leg
		no   api.Errno
	}{
		{nil, api.ErrShort},
		{[]api.Leg{}, api.ErrShort},
		{slices.Repeat([]api.Leg{right}, 5), api.ErrMany},
		{slices.Repeat([]api.Leg{leg(-1, -1, -1, -1, -1)}, 5), api.ErrMany},
		{[]api.Leg{leg(-1, 1, 0, 1, 0)}, api.ErrAccount},
		{[]api.Leg{leg(65536, 1, 0, 1, 0)}, api.ErrAccount},
		{[]api.Leg{leg(0, -1, 0, 1, 0)}, api.ErrAccount},
		{[]api.Leg{leg(0, 65536, 0, 1, 0)}, api.ErrAccount},
		{[]api.Leg{leg(math.MinInt, math.MaxInt, 0, 1, 0)}, api.ErrAccount},
		{[]api.Leg{leg(-1, -1, 1, 1, 0)}, api.ErrAccount}, // the key of a record
		{[]api.Leg{leg(1, 1, 0, 1, 0)}, api.ErrSame},
		{[]api.Leg{leg(1, 1, -1, 0, -1)}, api.ErrSame},
		{[]api.Leg{leg(0, 1, -1, 1, 0)}, api.ErrAsset},
		{[]api.Leg{leg(0, 1, 65536, 1, 0)}, api.ErrAsset},
		{[]api.Leg{leg(0, 1, 65536, 0, -1)}, api.ErrAsset},
		{[]api.Leg{leg(0, 1, 0, 0, 0)}, api.ErrAmount},
		{[]api.Leg{leg(0, 1, 0, -1, -1)}, api.ErrAmount},
		{[]api.Leg{leg(0, 1, 0, least, 0)}, api.ErrAmount},
		{[]api.Leg{leg(0, 1, 0, 1, -1)}, api.ErrMark},
		{[]api.Leg{leg(0, 1, 0, 1, 65537)}, api.ErrMark},
		{[]api.Leg{right, leg(0, 1, 0, 1, 65537), leg(0, 0, 0, 0, 0)}, api.ErrMark},
		{[]api.Leg{right, right, right, leg(1, 1, 0, 1, 0)}, api.ErrSame},
		{[]api.Leg{leg(0, 1, 0, most, 0), leg(0, 1, 0, 0, 0)}, api.ErrAmount}, // the first is not covered
	}
}

func TestLegsThatAreNotTaken(t *testing.T) {
	for _, c := range []cells{{}, rich()} {
		for _, x := range wrongLegs() {
			if no, _ := moves(t, c, x.legs); no != x.no {
				t.Errorf("%+v are refused by %v; want %v", x.legs, no, x.no)
			}
			v := open(c)
			if err := dvp.Covered(v, x.legs); err != x.no {
				t.Errorf("Covered(%+v) is %#v; want %v", x.legs, err, x.no)
			}
			if err := dvp.Move(v, x.legs); err != x.no || len(v.put) > 0 || len(v.got) > 0 {
				t.Errorf("Move(%+v) is %#v, and asks of %v", x.legs, err, v.got)
			}
		}
	}
}

// rich are cells in which each of three accounts has 100 of two assets.
func rich() cells {
	c := cells{}
	for account := range 3 {
		for asset := range 2 {
			c[key(account, asset)] = api.Cell{Position: pos(100)}
		}
	}
	return c
}

// moving is what legs come to: their error, or the positions behind them.
type moving struct {
	c     cells
	legs  []api.Leg
	no    api.Errno
	after cells // of a view without records
}

func moveAll(t *testing.T, l []moving) {
	t.Helper()
	for n, x := range l {
		no, after := moves(t, x.c, x.legs)
		if x.no != api.OK {
			x.after = x.c
		}
		if no != x.no || !after.equal(x.after) {
			t.Errorf("%d: %+v are answered %v, and leave %+v; want %v and %+v", n, x.legs, no, after, x.no, x.after)
		}
	}
}

// TestMoveOne: one leg, just covered and by one not.
func TestMoveOne(t *testing.T) {
	five := cells{}.with(0, 1, pos(5))
	split := cells{}.with(0, 1, pos(5, 3, 2, 7, 4))
	moveAll(t, []moving{
		{five, []api.Leg{leg(0, 2, 1, 5, 0)}, api.OK, cells{}.with(2, 1, pos(5))},
		{five, []api.Leg{leg(0, 2, 1, 4, 0)}, api.OK, cells{}.with(2, 1, pos(4)).with(0, 1, pos(1))},
		{five, []api.Leg{leg(0, 2, 1, 1, 65536)}, api.OK, cells{}.with(2, 1, pos(1)).with(0, 1, pos(4))},
		{five, []api.Leg{leg(0, 2, 1, 6, 0)}, api.ErrCover, nil},
		{five, []api.Leg{leg(0, 2, 1, most, 0)}, api.ErrCover, nil},
		{five, []api.Leg{leg(0, 2, 0, 5, 0)}, api.ErrCover, nil}, // of another asset
		{five, []api.Leg{leg(2, 0, 1, 5, 0)}, api.ErrCover, nil}, // the other way
		{cells{}, []api.Leg{leg(0, 2, 1, 1, 0)}, api.ErrCover, nil},
		{split, []api.Leg{leg(0, 2, 1, 5, 0)}, api.OK, cells{}.with(2, 1, pos(5)).with(0, 1, pos(0, 3, 2, 7, 4))},
		{split, []api.Leg{leg(0, 2, 1, 6, 0)}, api.ErrCover, nil},
		{split, []api.Leg{leg(0, 2, 1, 3, 7)}, api.OK, cells{}.with(2, 1, pos(3)).with(0, 1, pos(5, 3, 2, 7, 1))}, // the mark first
		{split, []api.Leg{leg(0, 2, 1, 4, 7)}, api.OK, cells{}.with(2, 1, pos(4)).with(0, 1, pos(5, 3, 2))},
		{split, []api.Leg{leg(0, 2, 1, 9, 7)}, api.OK, cells{}.with(2, 1, pos(9)).with(0, 1, pos(0, 3, 2))},
		{split, []api.Leg{leg(0, 2, 1, 10, 7)}, api.ErrCover, nil},
		{split, []api.Leg{leg(0, 2, 1, 7, 3)}, api.OK, cells{}.with(2, 1, pos(7)).with(0, 1, pos(0, 7, 4))},
		{split, []api.Leg{leg(0, 2, 1, 8, 3)}, api.ErrCover, nil},
		{split, []api.Leg{leg(0, 2, 1, 5, 9)}, api.OK, cells{}.with(2, 1, pos(5)).with(0, 1, pos(0, 3, 2, 7, 4))}, // no mark of this name
		{split, []api.Leg{leg(0, 2, 1, 6, 9)}, api.ErrCover, nil},
	})
}

// TestMoveToMarks: what comes is free, whatever name it was taken with, and marks stay.
func TestMoveToMarks(t *testing.T) {
	c := cells{}.with(0, 1, pos(0, 7, 4)).with(2, 1, pos(1, 7, 1))
	moveAll(t, []moving{{c, []api.Leg{leg(0, 2, 1, 4, 7)}, api.OK, cells{}.with(2, 1, pos(5, 7, 1))}})
}

// TestMoveSeveralDebits: several legs take from one position, free and under names.
func TestMoveSeveralDebits(t *testing.T) {
	c := cells{}.with(0, 1, pos(5, 3, 2, 7, 4))
	moveAll(t, []moving{
		{c, []api.Leg{leg(0, 1, 1, 2, 0), leg(0, 2, 1, 3, 0)}, api.OK, cells{}.with(0, 1, pos(0, 3, 2, 7, 4)).with(1, 1, pos(2)).with(2, 1, pos(3))},
		{c, []api.Leg{leg(0, 1, 1, 3, 0), leg(0, 2, 1, 3, 0)}, api.ErrCover, nil}, // each alone is covered
		{c, []api.Leg{leg(0, 1, 1, 3, 0), leg(0, 1, 1, 3, 0)}, api.ErrCover, nil},
		{c, []api.Leg{leg(0, 1, 1, 4, 7), leg(0, 1, 1, 2, 3), leg(0, 1, 1, 5, 0)}, api.OK, cells{}.with(1, 1, pos(11))},
		{c, []api.Leg{leg(0, 1, 1, 4, 7), leg(0, 1, 1, 2, 3), leg(0, 1, 1, 6, 0)}, api.ErrCover, nil},
		{c, []api.Leg{leg(0, 1, 1, 5, 0), leg(0, 1, 1, 4, 7), leg(0, 1, 1, 2, 3)}, api.OK, cells{}.with(1, 1, pos(11))},
		{c, []api.Leg{leg(0, 1, 1, 6, 7), leg(0, 1, 1, 3, 7)}, api.OK, cells{}.with(0, 1, pos(0, 3, 2)).with(1, 1, pos(9))}, // the second finds no mark
		{c, []api.Leg{leg(0, 1, 1, 6, 7), leg(0, 1, 1, 4, 7)}, api.ErrCover, nil},
		{c, []api.Leg{leg(0, 1, 1, 3, 7), leg(0, 1, 1, 3, 7)}, api.OK, cells{}.with(0, 1, pos(3, 3, 2)).with(1, 1, pos(6))},
		{c, []api.Leg{leg(0, 1, 1, 6, 7), leg(0, 1, 1, 3, 0), leg(0, 1, 1, 1, 3), leg(0, 1, 1, 1, 3)}, api.OK, cells{}.with(1, 1, pos(11))},
		{c, []api.Leg{leg(0, 1, 1, 6, 7), leg(0, 1, 1, 3, 0), leg(0, 1, 1, 1, 3), leg(0, 1, 1, 2, 3)}, api.ErrCover, nil},
		// the order of the legs counts: what is free is gone when the second comes
		{c, []api.Leg{leg(0, 1, 1, 9, 7), leg(0, 1, 1, 2, 3)}, api.OK, cells{}.with(1, 1, pos(11))},
		{c, []api.Leg{leg(0, 1, 1, 9, 7), leg(0, 1, 1, 3, 3)}, api.ErrCover, nil},
	})
}

// TestMoveTooLate: credits cover no debit, whatever the order of the legs.
func TestMoveTooLate(t *testing.T) {
	c := cells{}.with(0, 1, pos(5))
	moveAll(t, []moving{
		{c, []api.Leg{leg(0, 2, 1, 5, 0), leg(2, 0, 1, 5, 0)}, api.ErrCover, nil},
		{c, []api.Leg{leg(2, 0, 1, 5, 0), leg(0, 2, 1, 5, 0)}, api.ErrCover, nil},
		{c, []api.Leg{leg(0, 2, 1, 5, 0), leg(2, 1, 1, 1, 0)}, api.ErrCover, nil},
		{c.with(2, 1, pos(1)), []api.Leg{leg(0, 2, 1, 5, 0), leg(2, 1, 1, 1, 0)}, api.OK, cells{}.with(2, 1, pos(5)).with(1, 1, pos(1))},
		{c.with(2, 1, pos(0, 9, 1)), []api.Leg{leg(0, 2, 1, 5, 0), leg(2, 1, 1, 1, 0)}, api.ErrCover, nil},
		{c.with(2, 1, pos(5)), []api.Leg{leg(0, 2, 1, 5, 0), leg(2, 0, 1, 5, 0)}, api.OK, c.with(2, 1, pos(5))}, // there and back: nothing changes
	})
}

// TestMoveOver: no total grows beyond the greatest number, with what other legs took and brought counted.
func TestMoveOver(t *testing.T) {
	c := cells{}.with(0, 1, pos(5)).with(1, 1, pos(5))
	near := c.with(2, 1, pos(most-7, 9, 2))
	moveAll(t, []moving{
		{near, []api.Leg{leg(0, 2, 1, 5, 0)}, api.OK, cells{}.with(1, 1, pos(5)).with(2, 1, pos(most-2, 9, 2))},
		{near.with(2, 1, pos(most-6, 9, 2)), []api.Leg{leg(0, 2, 1, 5, 0)}, api.ErrOver, nil},
		{near.with(2, 1, pos(most-7, 9, 3)), []api.Leg{leg(0, 2, 1, 5, 0)}, api.ErrOver, nil}, // the marks count
		{near.with(2, 1, pos(0, 9, most)), []api.Leg{leg(0, 2, 1, 1, 0)}, api.ErrOver, nil},
		{near, []api.Leg{leg(0, 2, 1, 3, 0), leg(1, 2, 1, 2, 0)}, api.OK, cells{}.with(0, 1, pos(2)).with(1, 1, pos(3)).with(2, 1, pos(most-2, 9, 2))},
		{near, []api.Leg{leg(0, 2, 1, 3, 0), leg(1, 2, 1, 3, 0)}, api.ErrOver, nil},  // each alone would be taken
		{near, []api.Leg{leg(0, 2, 1, 3, 0), leg(1, 2, 1, 6, 0)}, api.ErrCover, nil}, // debits come first
		{near, []api.Leg{leg(1, 2, 1, 5, 0), leg(2, 0, 1, 5, 0), leg(0, 2, 1, 5, 0)}, api.OK, cells{}.with(0, 1, pos(5)).with(2, 1, pos(most-2, 9, 2))},
		{c.with(2, 1, pos(most)), []api.Leg{leg(0, 2, 1, 5, 0), leg(2, 1, 1, 5, 0)}, api.OK, cells{}.with(1, 1, pos(10)).with(2, 1, pos(most))},
		{c.with(2, 1, pos(most)), []api.Leg{leg(2, 1, 1, 4, 0), leg(0, 2, 1, 5, 0)}, api.ErrOver, nil},
		{cells{}.with(0, 1, pos(most)).with(1, 1, pos(most)), []api.Leg{leg(0, 1, 1, most, 0), leg(1, 0, 1, most, 0)}, api.OK, cells{}.with(0, 1, pos(most)).with(1, 1, pos(most))},
		{cells{}.with(0, 1, pos(most)).with(1, 1, pos(most)), []api.Leg{leg(0, 2, 1, most, 0), leg(1, 2, 1, most, 0)}, api.ErrOver, nil},
		{cells{}.with(0, 1, pos(most)), []api.Leg{leg(0, 1, 1, most, 0)}, api.OK, cells{}.with(1, 1, pos(most))},
	})
}

// TestMoveNamesToFree: what is taken from a mark and brought back is free then: the position has changed.
func TestMoveNamesToFree(t *testing.T) {
	c := cells{}.with(0, 1, pos(0, 7, 5)).with(2, 1, pos(5))
	moveAll(t, []moving{{c, []api.Leg{leg(0, 2, 1, 5, 7), leg(2, 0, 1, 5, 0)}, api.OK, cells{}.with(0, 1, pos(5)).with(2, 1, pos(5))}})
}

// TestMoveWidest: the last account, asset and name of the widest ledger are taken.
func TestMoveWidest(t *testing.T) {
	c := cells{}.with(65535, 65535, pos(1, 65536, 1))
	moveAll(t, []moving{{c, []api.Leg{leg(65535, 0, 65535, 2, 65536)}, api.OK, cells{}.with(0, 65535, pos(2))}})
}

// TestMoveKeepsRecords: a cell that is put is the one that stood there, with another position alone.
func TestMoveKeepsRecords(t *testing.T) {
	legs := []api.Leg{leg(1, 2, 3, 4, 5)}
	c := cells{
		key(0, 1): {Position: pos(5), Record: api.Record{Status: api.Settled, Legs: legs}},
		key(2, 1): {Record: api.Record{Status: api.Pending, Legs: legs}},
	}
	_, after := moves(t, c, []api.Leg{leg(0, 2, 1, 5, 0)})
	for k := range c {
		if !proof.SameRecord(after[k].Record, c[k].Record) {
			t.Errorf("the record of %v is %+v", k, after[k])
		}
	}
}

// TestMoveAllSmall holds all lists of up to three small legs, over all small positions, against the reckoning.
func TestMoveAllSmall(t *testing.T) {
	var legs []api.Leg
	for _, ends := range [][2]int{{0, 1}, {1, 0}, {0, 2}} {
		for _, qty := range []int64{1, 2, most} {
			for _, name := range []int{0, 7} {
				legs = append(legs, leg(ends[0], ends[1], 0, qty, name))
			}
		}
	}
	lists := [][]api.Leg{nil}
	for at := 0; at < len(lists); at++ {
		if len(lists[at]) < 3 {
			for _, l := range legs {
				lists = append(lists, append(slices.Clone(lists[at]), l))
			}
		}
	}
	some := []api.Position{pos(0), pos(2), pos(1, 7, 1), pos(most-1, 7, 1), pos(0, 7, most)}
	seen := map[api.Errno]int{}
	for at, l := range lists {
		for i := range some {
			c := cells{}.with(0, 0, some[i]).with(1, 0, some[(at+i)%5]).with(2, 0, some[(at/5+i*2)%5])
			no, _ := moves(t, c, l)
			seen[no]++
		}
	}
	for _, no := range []api.Errno{api.OK, api.ErrCover, api.ErrOver} {
		if seen[no] < 500 {
			t.Errorf("%v was answered %d times", no, seen[no])
		}
	}
}

// P17.8: totals grow by what legs bring, and fall by what they take; all positions are right; or nothing is changed.
func TestMoveAllOrNone(t *testing.T) {
	d := newDice(3)
	moved, refused := 0, 0
	for range 30000 {
		c, legs := d.cells(), d.Legs(4)
		v := open(c)
		if dvp.Move(v, legs) != nil {
			refused++
			if !v.cells.equal(c) {
				t.Fatalf("%+v are refused, and %+v became %+v", legs, c, v.cells)
			}
			continue
		}
		moved++
		for k := range v.cells {
			want := uint64(balance.Total(c[k].Position))
			for _, l := range legs {
				if k == key(l.To, l.Asset) {
					want += uint64(l.Qty)
				}
				if k == key(l.From, l.Asset) {
					want -= uint64(l.Qty)
				}
			}
			if p := v.cells[k].Position; balance.Check(p) != nil || uint64(balance.Total(p)) != want {
				t.Fatalf("%+v turn %+v under %v to %+v; want the total %d", legs, c[k], k, p, want)
			}
		}
	}
	if moved < 3000 || refused < 3000 {
		t.Errorf("%d moved, %d were refused", moved, refused)
	}
}
