package dvp_test

import (
	"math"
	"slices"
	"testing"

	"custody/api"
	"custody/dvp"
)

// P17.6

func TestSettle(t *testing.T) {
	legs := swap(8, 5, 9).Legs
	c := ready().records(8, api.Pending, legs...)
	ok, after := settles(t, c, 8)
	if !ok || !after.equal(cells{}.with(0, 0, pos(9)).with(2, 1, pos(5)).records(8, api.Settled, legs...)) {
		t.Errorf("Settle is %v, and leaves %+v", ok, after)
	}
	v := open(c)
	if l, ok := dvp.Settle(v, 8); !ok || !slices.Equal(l, keys(0, 0, 0, 1, 2, 0, 2, 1)) {
		t.Errorf("Settle is %v, %v", l, ok)
	}
	if l, ok := dvp.Settle(v, 8); ok || len(l) > 0 {
		t.Errorf("Settle of what is settled is %v, %v", l, ok)
	}
}

// TestSettleWaits: legs that are not covered, by too little or by too much, stay as they are.
func TestSettleWaits(t *testing.T) {
	for _, x := range []struct {
		c    cells
		legs []api.Leg
	}{
		{ready(), swap(8, 6, 9).Legs},
		{ready(), swap(8, 5, 10).Legs},
		{cells{}, swap(8, 5, 9).Legs},
		{ready(), []api.Leg{leg(0, 2, 1, 5, 0), leg(2, 0, 1, 5, 0)}},
		{ready().with(2, 1, pos(most-4)), swap(8, 5, 9).Legs},
		{ready().with(0, 0, pos(0, 1, most)), swap(8, 5, 9).Legs},
	} {
		if ok, after := settles(t, x.c.records(8, api.Pending, x.legs...), 8); ok || !after.equal(x.c.records(8, api.Pending, x.legs...)) {
			t.Errorf("Settle(%+v, %+v) is %v, and leaves %+v", x.c, x.legs, ok, after)
		}
	}
}

// TestSettleStatuses: of those that are not pending nothing is settled, covered or not.
func TestSettleStatuses(t *testing.T) {
	for _, status := range []int{api.None, api.Pending, api.Settled, api.Cancelled} {
		for _, there := range []int64{5, 6} {
			c := ready().records(8, status, swap(8, there, 9).Legs...)
			if ok, _ := settles(t, c, 8); ok != (status == api.Pending && there == 5) {
				t.Errorf("Settle of the status %d, with %d, is %v", status, there, ok)
			}
		}
	}
}

// TestSettleIds: any id may be asked: what counts is the record that stands under it.
func TestSettleIds(t *testing.T) {
	for _, id := range []int{math.MinInt, -1, 0, 1, 7, 9, 1 << 40, 1<<40 + 1, math.MaxInt} {
		if ok, _ := settles(t, ready(), id); ok {
			t.Errorf("Settle(%d) is true of nothing", id)
		}
		if ok, _ := settles(t, ready().records(8, api.Pending, swap(8, 5, 9).Legs...), id); ok {
			t.Errorf("Settle(%d) settles 8", id)
		}
		if ok, _ := settles(t, ready().records(id, api.Pending, swap(8, 5, 9).Legs...), id); !ok {
			t.Errorf("Settle(%d) is false", id)
		}
	}
}

// TestSettleThatChangesNothing: legs that go there and back settle, and change no position.
func TestSettleThatChangesNothing(t *testing.T) {
	legs := []api.Leg{leg(0, 1, 1, 5, 0), leg(1, 0, 1, 5, 0)}
	c := cells{}.with(0, 1, pos(5)).with(1, 1, pos(5))
	v := open(c.records(8, api.Pending, legs...))
	if l, ok := dvp.Settle(v, 8); !ok || len(l) > 0 || !v.cells.equal(c.records(8, api.Settled, legs...)) {
		t.Errorf("Settle is %v, %v, and leaves %+v", l, ok, v.cells)
	}
}

// TestSettleKeepsTheRest: a cell that is put is the one that stood there, with the position or the record turned.
func TestSettleKeepsTheRest(t *testing.T) {
	c := ready().records(8, api.Pending, swap(8, 5, 9).Legs...).with(-1, 8, pos(3, 1, 2))
	x := c[key(0, 1)]
	x.Record = api.Record{Status: api.Pending, Legs: []api.Leg{leg(1, 2, 3, 4, 5)}}
	c[key(0, 1)] = x
	_, after := settles(t, c, 8)
	if r := after[key(0, 1)].Record; r.Status != api.Pending || len(r.Legs) != 1 || after[key(-1, 8)].Position.Avail != 3 {
		t.Errorf("Settle leaves %+v", after)
	}
}

// TestSettleMany holds Settle of all records of many views against the reckoning.
func TestSettleMany(t *testing.T) {
	d := newDice(4)
	settled := 0
	for range 8000 {
		c := d.cells()
		for id := range 5 {
			if ok, _ := settles(t, c, id); ok {
				settled++
			}
		}
	}
	if settled < 1000 {
		t.Errorf("only %d settled", settled)
	}
}
