package audit_test

import (
	"math"
	"slices"
	"testing"

	"custody/api"
	"custody/audit"
	"custody/proof"
)

// numbered is a call with a number, which returned at a time (0: it hasn't).
func numbered(number, returned int) api.Call {
	return call(deposit(0, 0, 1), 1, returned, number, api.Answer{})
}

// reading is a snapshot of this number, which returned at a time (0: it hasn't).
func reading(number, returned int) api.Call {
	return call(snapshot(), 1, returned, number, api.Answer{})
}

// denied is a snapshot that was refused.
func denied(number, returned int) api.Call {
	return call(snapshot(), 1, returned, number, no(api.ErrMany))
}

func calls(l ...api.Call) []api.Call { return l }

// settles are settlements of these numbers.
func settles(numbers ...int) []api.Settle {
	var l []api.Settle
	for _, n := range numbers {
		l = append(l, api.Settle{Number: n})
	}
	return l
}

// P21.1
func TestOrder(t *testing.T) {
	for _, x := range []struct {
		name    string
		calls   []api.Call
		settles []api.Settle
		want    []int
	}{
		{"nothing", nil, nil, nil},
		{"nothing that is numbered", calls(numbered(0, 5), numbered(0, 0), reading(0, 0)), nil, nil},
		{"calls alone", calls(numbered(3, 0), numbered(1, 7), numbered(2, 5)), nil, []int{1, 2, 0}},
		{"settlements alone", nil, settles(2, 3, 1), []int{2, 0, 1}},
		{"settlements stand behind the calls' places", calls(numbered(2, 5), numbered(0, 5)), settles(3, 1), []int{3, 0, 2}},
		{"a settlement without a number is numbered", calls(numbered(1, 5), numbered(-1, 5)), settles(0, 2), []int{1, 2, 0, 3}},
		{"equal numbers of calls", calls(numbered(2, 9), numbered(1, 8), numbered(2, 7), numbered(1, 0)), nil, []int{1, 3, 0, 2}},
		{"equal numbers of settlements", nil, settles(2, 1, 2, 1), []int{1, 3, 0, 2}},
		{"equal numbers of both", calls(numbered(2, 9), numbered(1, 8)), settles(1, 2), []int{1, 2, 0, 3}},
		{"a read behind its number", calls(reading(1, 2), numbered(1, 9), numbered(2, 4)), nil, []int{1, 0, 2}},
		{"a read behind a settlement of its number", calls(reading(1, 2), numbered(2, 4)), settles(1), []int{2, 0, 1}},
		{"a read behind all of its number", calls(reading(1, 2), numbered(1, 4)), settles(1, 1), []int{1, 2, 3, 0}},
		{"a read of 0", calls(numbered(1, 4), reading(0, 9)), nil, []int{1, 0}},
		{"a read of a number that is missing", calls(numbered(1, 4), numbered(5, 4), reading(3, 9)), nil, []int{0, 2, 1}},
		{"a read beyond all", calls(reading(7, 9), numbered(1, 4), numbered(5, 4)), settles(6), []int{1, 2, 3, 0}},
		{"reads beyond all by their numbers", calls(reading(9, 1), reading(8, 9), reading(7, 5), numbered(1, 4)), nil, []int{3, 2, 1, 0}},
		{"reads of one number by Returned", calls(reading(1, 9), reading(1, 5), numbered(1, 2), reading(1, 7)), nil, []int{2, 1, 3, 0}},
		{"reads of one number and Returned", calls(reading(1, 5), numbered(1, 2), reading(1, 5), reading(1, 4), reading(1, 5)), nil, []int{1, 3, 0, 2, 4}},
		{"reads whose Returned is below 0", calls(reading(1, 5), reading(1, -5), numbered(1, 2), reading(1, -6)), nil, []int{2, 3, 1, 0}},
		{"Returned counts for reads alone", calls(numbered(1, 9), numbered(1, 2), numbered(1, -3), reading(1, -9)), nil, []int{0, 1, 2, 3}},
		{"snapshots that were refused", calls(denied(1, 5), numbered(1, 2), denied(0, 5)), nil, []int{1}},
		{"snapshots that have not returned", calls(reading(1, 0), numbered(1, 2), reading(0, 0)), nil, []int{1}},
		{"numbers below 0", calls(numbered(-1, 5), numbered(1, 2), reading(-2, 5), numbered(-2, 0)), settles(-3), []int{4, 3, 2, 0, 1}},
		{"the greatest and the least", calls(numbered(math.MaxInt, 5), numbered(math.MinInt, 2), reading(math.MaxInt, 5), reading(math.MinInt, 5)), settles(-1), []int{1, 3, 4, 0, 2}},
		{"reads at the greatest and the least time", calls(reading(1, math.MaxInt), reading(1, math.MinInt), reading(1, 3)), nil, []int{1, 2, 0}},
		{"any operation but a Snapshot", calls(call(api.Op{}, 0, 0, 2, no(api.ErrCode)), call(api.Op{Code: -8}, 0, 0, 1, api.Answer{})), nil, []int{1, 0}},
		{"a read has a Status too", calls(call(snapshot(), 0, 1, 0, said(9))), nil, []int{0}},
	} {
		r := api.Result{Calls: x.calls, Settles: x.settles}
		if got := audit.Order(r); !slices.Equal(got, x.want) {
			t.Errorf("%s: %v, not %v", x.name, got, x.want)
		}
	}
}

// anyResult is a result of which nothing need be right.
func anyResult(d *proof.Dice, n int) api.Result {
	number := func() int { return proof.Of(d, d.Below(3), d.Below(9), d.Below(9)-2, d.Number()) }
	var r api.Result
	for range d.Below(n) {
		x := call(d.SmallOp(3), number(), number(), number(), proof.Of(d, api.Answer{}, api.Answer{}, no(api.Errno(d.Below(25))), said(d.Below(4))))
		if d.Below(3) == 0 {
			x.Op = snapshot()
		}
		r.Calls = append(r.Calls, x)
	}
	for range d.Below(n) {
		r.Settles = append(r.Settles, api.Settle{Id: number(), Number: number(), At: number()})
	}
	return r
}

// P21.1: of any result, against the second reckoning.
func TestOrderOfAny(t *testing.T) {
	d := proof.Dice(2101)
	reads := 0
	for range 20000 {
		r := anyResult(&d, 1+d.Below(12))
		var want []int
		for _, x := range ordered(r) {
			want = append(want, x.place)
			if x.read {
				reads++
			}
		}
		if got := audit.Order(r); !slices.Equal(got, want) {
			t.Fatalf("%+v: the order is %v, not %v", r, got, want)
		}
	}
	if reads < 5000 {
		t.Errorf("only %d reads", reads)
	}
}

// TestOrderOfMany: many that come in the order of their numbers, or against it, are ordered in no time.
func TestOrderOfMany(t *testing.T) {
	const n = 100000
	var r api.Result
	var want []int
	for i := range n {
		r.Calls = append(r.Calls, numbered(n-i, 5))
		want = append(want, n-1-i)
	}
	if !slices.Equal(audit.Order(r), want) {
		t.Error("they are not in their order")
	}
}
