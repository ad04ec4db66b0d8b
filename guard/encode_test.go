package guard_test

import (
	"slices"
	"testing"

	"custody/api"
	"custody/guard"
	"custody/proof"
)

// filled is an operation of which every field is filled in, whether it is its own or not.
func filled(code int) api.Op {
	return api.Op{
		Code: code, Account: 101, Asset: 102, Qty: 103, Name: 104, Id: 105,
		Legs:  []api.Leg{{From: 201, To: 202, Asset: 203, Qty: 204, Name: 205}, {From: 211, To: 212, Asset: 213, Qty: 214, Name: 215}},
		Pairs: []api.Key{{Account: 301, Asset: 302}, {Account: 311, Asset: 312}, {Account: 321, Asset: 322}},
	}
}

// Each of the eight is written with its own fields alone.
func TestEncodeEach(t *testing.T) {
	for code, want := range map[int][]int64{
		api.OpDeposit:  {1, 101, 102, 103},
		api.OpWithdraw: {2, 101, 102, 103},
		api.OpMark:     {3, 101, 102, 103, 104},
		api.OpUnmark:   {4, 101, 102, 103, 104},
		api.OpSubmit:   {5, 105, 201, 202, 203, 204, 205, 211, 212, 213, 214, 215},
		api.OpCancel:   {6, 105},
		api.OpStatus:   {7, 105},
		api.OpSnapshot: {8, 301, 302, 311, 312, 321, 322},
	} {
		if got, err := guard.Encode(filled(code)); !slices.Equal(got, want) || err != nil {
			t.Errorf("Encode(%+v) is %d, %v; want %d", filled(code), got, err, want)
		}
	}
}

// Each of the eight, with nothing in it.
func TestEncodeEmpty(t *testing.T) {
	for code, want := range map[int][]int64{1: {1, 0, 0, 0}, 2: {2, 0, 0, 0}, 3: {3, 0, 0, 0, 0}, 4: {4, 0, 0, 0, 0}, 5: {5, 0}, 6: {6, 0}, 7: {7, 0}, 8: {8}} {
		for _, o := range []api.Op{{Code: code}, {Code: code, Legs: []api.Leg{}, Pairs: []api.Key{}}} {
			if got, err := guard.Encode(o); !slices.Equal(got, want) || err != nil {
				t.Errorf("Encode(%#v) is %d, %v; want %d", o, got, err, want)
			}
		}
	}
}

func TestEncodeOtherCodes(t *testing.T) {
	for _, n := range append(edges(), 10, 1<<32+8, 1-1<<32, least+8) {
		if n >= 1 && n <= 8 {
			continue
		}
		for _, o := range []api.Op{{Code: int(n)}, filled(int(n))} {
			if got, err := guard.Encode(o); len(got) != 0 || !proof.Tells(err, api.ErrCode) {
				t.Errorf("Encode(%+v) is %d, %v", o, got, err)
			}
		}
	}
}

// What Check refuses is written as it is: legs and pairs as many as they like, and any numbers.
func TestEncodeTakesAll(t *testing.T) {
	for _, many := range []int{0, 1, 4, 5, 63, 64, 65, 1000, 50000} {
		o := api.Op{Id: -1}
		for i := range many {
			o.Legs = append(o.Legs, api.Leg{From: i, To: -i, Asset: i * i, Qty: least + int64(i), Name: most - i})
			o.Pairs = append(o.Pairs, api.Key{Account: -i, Asset: most - i})
		}
		for code, size := range map[int]int{api.OpSubmit: 2 + 5*many, api.OpSnapshot: 1 + 2*many} {
			o.Code = code
			if row, no := encodes(t, o); no != api.OK || len(row) != size {
				t.Errorf("Encode of %d of %d has %d numbers", many, code, len(row))
			}
		}
	}
	for code := 1; code <= 8; code++ {
		for _, n := range edges() {
			o := api.Op{Code: code, Account: int(n), Asset: int(n), Qty: n, Name: int(n), Id: int(n)}
			o.Legs = []api.Leg{{From: int(n), To: int(n), Asset: int(n), Qty: n, Name: int(n)}}
			o.Pairs = []api.Key{{Account: int(n), Asset: int(n)}}
			row, _ := encodes(t, o)
			for _, got := range row[1:] {
				if got != n {
					t.Errorf("Encode(%+v) is %d", o, row)
				}
			}
		}
	}
}
