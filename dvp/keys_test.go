package dvp_test

import (
	"math"
	"slices"
	"testing"

	"custody/api"
	"custody/dvp"
)

// full is an operation with all fields filled in, also those that are not its own.
func full(code int) api.Op {
	return api.Op{Code: code, Account: 3, Asset: 4, Qty: 5, Name: 6, Id: 7, Legs: []api.Leg{leg(2, 1, 9, 5, 0), leg(1, 2, 8, 6, 7)}, Pairs: keys(5, 6, 4, 9, 5, 6)}
}

// P17.1

func TestKeysOfEachKind(t *testing.T) {
	for code, want := range [][]api.Key{
		1: keys(3, 4), 2: keys(3, 4), 3: keys(3, 4), 4: keys(3, 4),
		5: keys(-1, 7, 1, 8, 1, 9, 2, 8, 2, 9),
		6: keys(-1, 7), 7: keys(-1, 7),
		8: keys(4, 9, 5, 6),
		9: nil, 10: nil,
	} {
		if got := dvp.Keys(full(code)); !slices.Equal(got, want) {
			t.Errorf("Keys of the code %d are %v; want %v", code, got, want)
		}
	}
}

func TestKeysOfOtherCodes(t *testing.T) {
	for _, code := range []int{math.MinInt, -8, -5, -1, 0, 9, 13, 256, 257, 1 << 32, 1<<32 + 1, math.MaxInt} {
		if got := dvp.Keys(full(code)); len(got) > 0 {
			t.Errorf("Keys of the code %d are %v", code, got)
		}
	}
}

// TestKeysOfWrong: keys are told of operations that Check refuses too.
func TestKeysOfWrong(t *testing.T) {
	for _, x := range []struct {
		o    api.Op
		want []api.Key
	}{
		{held(1, -1, -2, -3), keys(-1, -2)},
		{held(2, math.MinInt, math.MaxInt, 0), keys(math.MinInt, math.MaxInt)},
		{held(1, 0, 0, 0), keys(0, 0)},
		{marked(3, 65536, 65536, 0, -1), keys(65536, 65536)},
		{marked(4, math.MaxInt, math.MinInt, least, 0), keys(math.MaxInt, math.MinInt)},
		{ided(6, 0), keys(-1, 0)},
		{ided(6, -1), keys(-1, -1)},
		{ided(7, math.MinInt), keys(-1, math.MinInt)},
		{ided(7, math.MaxInt), keys(-1, math.MaxInt)},
		{submit(0), keys(-1, 0)},
		{submit(-5), keys(-1, -5)},
		{submit(3), keys(-1, 3)},
		{submit(3, leg(2, 2, 1, 0, -1)), keys(-1, 3, 2, 1)},
		{submit(3, leg(-1, 2, 3, 0, -1)), keys(-1, 3, 2, 3)}, // the leg's first key is the record's
		{submit(3, leg(0, -1, 3, 0, -1)), keys(-1, 3, 0, 3)},
		{submit(3, leg(-1, -2, 4, 0, 0)), keys(-2, 4, -1, 3, -1, 4)}, // the record's is not the first
		{submit(3, leg(-1, -1, 2, 0, 0)), keys(-1, 2, -1, 3)},
		{submit(math.MaxInt, leg(math.MinInt, math.MaxInt, math.MinInt, 0, 0)), keys(math.MinInt, math.MinInt, -1, math.MaxInt, math.MaxInt, math.MinInt)},
		{submit(9, leg(9, 8, 0, 1, 0), leg(7, 6, 0, 1, 0), leg(5, 4, 0, 1, 0), leg(3, 2, 0, 1, 0), leg(1, 0, 0, 1, 0)), keys(-1, 9, 0, 0, 1, 0, 2, 0, 3, 0, 4, 0, 5, 0, 6, 0, 7, 0, 8, 0, 9, 0)},
		{snapshot(), nil},
		{snapshot(0, 0), keys(0, 0)},
		{snapshot(0, 0, 0, 0, 0, 0), keys(0, 0)},
		{snapshot(0, 1, 0, 2, 1, 0), keys(0, 1, 0, 2, 1, 0)},
		{snapshot(1, 0, 0, 2, 0, 1), keys(0, 1, 0, 2, 1, 0)},
		{snapshot(1, 0, 0, 1, 1, 0, 0, 1), keys(0, 1, 1, 0)},
		{snapshot(-1, 5, 0, 0, -1, 5, -2, 9), keys(-2, 9, -1, 5, 0, 0)},
		{snapshot(0, math.MaxInt, 0, math.MinInt, math.MinInt, 0, math.MaxInt, 0), keys(math.MinInt, 0, 0, math.MinInt, 0, math.MaxInt, math.MaxInt, 0)},
	} {
		if got := dvp.Keys(x.o); !slices.Equal(got, x.want) {
			t.Errorf("Keys(%+v) are %v; want %v", x.o, got, x.want)
		}
	}
}

// TestKeysOfManyPairs: a Snapshot may have more pairs than Check takes.
func TestKeysOfManyPairs(t *testing.T) {
	o := api.Op{Code: api.OpSnapshot}
	for n := range 20000 {
		o.Pairs = append(o.Pairs, key((n*7919)%5000, (n*31)%3))
	}
	if got, want := dvp.Keys(o), sorted(o.Pairs); !slices.Equal(got, want) || len(want) != 15000 {
		t.Errorf("there are %d keys; want %d", len(got), len(want))
	}
}

// P17.2

func TestLegKeys(t *testing.T) {
	for _, x := range []struct {
		id   int
		legs []api.Leg
		want []api.Key
	}{
		{8, nil, keys(-1, 8)},
		{8, []api.Leg{}, keys(-1, 8)},
		{0, nil, keys(-1, 0)},
		{-3, nil, keys(-1, -3)},
		{8, []api.Leg{leg(0, 2, 1, 5, 0)}, keys(-1, 8, 0, 1, 2, 1)},
		{8, []api.Leg{leg(2, 0, 1, 5, 0)}, keys(-1, 8, 0, 1, 2, 1)},
		{8, []api.Leg{leg(0, 2, 1, 5, 0), leg(2, 0, 0, 9, 7)}, keys(-1, 8, 0, 0, 0, 1, 2, 0, 2, 1)},
		{8, []api.Leg{leg(0, 2, 1, 5, 0), leg(2, 0, 1, 9, 7)}, keys(-1, 8, 0, 1, 2, 1)},                           // both share both
		{8, []api.Leg{leg(0, 1, 1, 5, 0), leg(0, 2, 1, 5, 0), leg(1, 2, 1, 5, 0)}, keys(-1, 8, 0, 1, 1, 1, 2, 1)}, // each shares one with each
		{8, []api.Leg{leg(0, 1, 3, 5, 0), leg(0, 1, 3, 5, 0), leg(0, 1, 3, 5, 0), leg(0, 1, 3, 5, 0)}, keys(-1, 8, 0, 3, 1, 3)},
		{1 << 40, []api.Leg{leg(65535, 0, 65535, 1, 0)}, keys(-1, 1<<40, 0, 65535, 65535, 65535)},
		{5, []api.Leg{leg(-1, -1, 5, 0, 0)}, keys(-1, 5)},
	} {
		if got := dvp.LegKeys(x.id, x.legs); !slices.Equal(got, x.want) {
			t.Errorf("LegKeys(%d, %+v) are %v; want %v", x.id, x.legs, got, x.want)
		}
		o := api.Op{Code: api.OpSubmit, Id: x.id, Legs: x.legs}
		if got := dvp.Keys(o); !slices.Equal(got, x.want) {
			t.Errorf("Keys(%+v) are %v; want %v", o, got, x.want)
		}
	}
}

// TestManyKeys holds the keys of many operations, right and not, against the reckoning.
func TestManyKeys(t *testing.T) {
	d := newDice(1)
	shared := 0
	for range 60000 {
		o := d.AnyOp()
		if got, want := dvp.Keys(o), opKeys(o); !slices.Equal(got, want) {
			t.Fatalf("Keys(%+v) are %v; want %v", o, got, want)
		}
		got, want := dvp.LegKeys(o.Id, o.Legs), legKeys(o.Id, o.Legs)
		if !slices.Equal(got, want) {
			t.Fatalf("LegKeys(%d, %+v) are %v; want %v", o.Id, o.Legs, got, want)
		}
		if len(want) < 1+2*len(o.Legs) {
			shared++
		}
	}
	if shared < 5000 {
		t.Errorf("only %d shared keys", shared)
	}
}

// TestKeysHangOnOwnFields: what else an operation holds is not looked at.
func TestKeysHangOnOwnFields(t *testing.T) {
	d := newDice(2)
	for range 20000 {
		o, other := d.AnyOp(), d.AnyOp()
		other.Code = o.Code
		switch o.Code {
		case 1, 2, 3, 4:
			other.Account, other.Asset = o.Account, o.Asset
		case 5:
			other.Id, other.Legs = o.Id, o.Legs
		case 6, 7:
			other.Id = o.Id
		case 8:
			other.Pairs = o.Pairs
		}
		if got, want := dvp.Keys(other), dvp.Keys(o); !slices.Equal(got, want) {
			t.Fatalf("Keys(%+v) are %v, and Keys(%+v) %v", other, got, o, want)
		}
	}
}
