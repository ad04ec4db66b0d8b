package proof_test

import (
	"slices"
	"testing"

	"custody/api"
	"custody/guard"
	"custody/proof"
)

func TestRow(t *testing.T) {
	filled := func(code int) api.Op {
		return api.Op{Code: code, Account: 1, Asset: 2, Qty: 3, Name: 4, Id: 5, Legs: []api.Leg{proof.Leg(6, 7, 8, 9, 10), proof.Leg(0, 1, 2, 3, 4)}, Pairs: proof.Keys(11, 12, 13, 14)}
	}
	for code, want := range [][]int64{
		{0}, {1, 1, 2, 3}, {2, 1, 2, 3}, {3, 1, 2, 3, 4}, {4, 1, 2, 3, 4}, {5, 5, 6, 7, 8, 9, 10, 0, 1, 2, 3, 4}, {6, 5}, {7, 5}, {8, 11, 12, 13, 14}, {9},
	} {
		if got := proof.Row(filled(code)); !slices.Equal(got, want) {
			t.Errorf("the row of %d is %v, not %v", code, got, want)
		}
	}
	if l := proof.Rows(filled(1), filled(7)); len(l) != 2 || !slices.Equal(l[0], []int64{1, 1, 2, 3}) || !slices.Equal(l[1], []int64{7, 5}) {
		t.Errorf("rows are %v", l)
	}
}

// TestSessions: sessions of chance are as many and as long as is asked for; there are rows of each code, most of them right, and some that are refused.
func TestSessions(t *testing.T) {
	d := proof.Dice(7)
	c := api.Config{Accounts: 3, Assets: 2}
	wrong, all, codes := 0, 0, [10]int{}
	for range 2000 {
		l := d.Sessions(4, 6, 9)
		if len(l) > 4 || slices.ContainsFunc(l, func(rows [][]int64) bool { return len(rows) > 6 }) {
			t.Fatalf("sessions are %v", l)
		}
		for _, row := range slices.Concat(l...) {
			all++
			if o, err := guard.Decode(row); err != nil || proof.Judge(c, o) != api.OK {
				wrong++
			} else {
				codes[o.Code]++
			}
		}
		if o := d.SmallOp(9); proof.Judge(c, o) != api.OK || o.Id > 9 {
			t.Fatalf("%+v is refused by %v", o, proof.Judge(c, o))
		}
	}
	if all < 5000 || slices.Min(codes[1:9]) < 200 || wrong < all/50 || wrong > all/5 {
		t.Errorf("%d rows, of each code %v; %d are wrong", all, codes, wrong)
	}
}

// aResult is one with something in each list.
func aResult() api.Result {
	return api.Result{
		Calls: []api.Call{
			{Op: proof.Submit(7, proof.Leg(0, 1, 1, 5, 0)), Invoked: 1, Returned: 2, Number: 1, Answer: api.Answer{Status: api.Pending}},
			{Index: 1, Op: proof.Snapshot(2, 0, 0, 1), Invoked: 3, Returned: 4, Number: 1, Answer: api.Answer{Positions: []api.Position{proof.Position(0, 3, 1, 7, 2), proof.Position(5)}}},
			{Session: 1, Op: proof.Identified(api.OpStatus, 9), Invoked: 5, Returned: 6, Number: 2, Answer: api.Answer{Err: api.ErrLost}},
		},
		Settles: []api.Settle{{Worker: 1, Id: 6, Number: 3, At: 7}},
		State:   aState(),
		Quiet:   true,
		Stuck:   1,
		Turns:   30,
	}
}

// resultTurns are ways to make another one of aResult.
func resultTurns() []func(r *api.Result) {
	return []func(r *api.Result){
		func(r *api.Result) { r.Calls = r.Calls[:2] },
		func(r *api.Result) { r.Calls[2].Session = 0 },
		func(r *api.Result) { r.Calls[1].Index = 2 },
		func(r *api.Result) { r.Calls[0].Op.Legs[0].Qty = 6 },
		func(r *api.Result) { r.Calls[0].Op.Id = 8 },
		func(r *api.Result) { r.Calls[0].Invoked = 2 },
		func(r *api.Result) { r.Calls[0].Returned = 0 },
		func(r *api.Result) { r.Calls[0].Number = 0 },
		func(r *api.Result) { r.Calls[1].Answer.Positions[0].Marks[0].Qty = 2 },
		func(r *api.Result) { r.Calls[2].Answer.Err = api.OK },
		func(r *api.Result) { r.Settles = nil },
		func(r *api.Result) { r.Settles[0].At = 0 },
		func(r *api.Result) { r.State.Queue = nil },
		func(r *api.Result) { r.Quiet = false },
		func(r *api.Result) { r.Stuck = 0 },
		func(r *api.Result) { r.Turns = 31 },
	}
}

func TestSameResult(t *testing.T) {
	if !proof.SameResult(aResult(), aResult()) || !proof.SameResult(api.Result{}, api.Result{Calls: []api.Call{}, Settles: []api.Settle{}}) {
		t.Error("results that are the same are not")
	}
	for n, turn := range resultTurns() {
		r := aResult()
		if turn(&r); proof.SameResult(r, aResult()) || proof.SameResult(aResult(), r) {
			t.Errorf("%d: results that are unlike are the same", n)
		}
	}
}

// TestRoomyResult: a roomy copy is the same, but it has spare room everywhere; that a copy with the spare room shows when something is turned there.
func TestRoomyResult(t *testing.T) {
	r := proof.RoomyResult(aResult())
	whole := proof.WholeResult(r)
	if !proof.SameResult(r, aResult()) || proof.SameResult(whole, aResult()) || !proof.SameResult(whole, proof.WholeResult(r)) {
		t.Errorf("%+v, and with its spare room %+v", r, whole)
	}
	for n, turn := range []func(r api.Result){
		func(r api.Result) { proof.Whole(r.Calls)[3].Invoked = 1 },
		func(r api.Result) { proof.Whole(r.Calls[0].Op.Legs)[1].Qty = 1 },
		func(r api.Result) { proof.Whole(r.Calls[1].Op.Pairs)[2].Asset = 1 },
		func(r api.Result) { proof.Whole(r.Calls[1].Answer.Positions)[2].Avail = 1 },
		func(r api.Result) { proof.Whole(r.Calls[1].Answer.Positions[0].Marks)[2].Qty = 1 },
		func(r api.Result) { proof.Whole(r.Settles)[1].Id = 1 },
		func(r api.Result) { proof.Whole(r.State.Queue)[len(r.State.Queue)] = 1 },
	} {
		r := proof.RoomyResult(aResult())
		if turn(r); proof.SameResult(proof.WholeResult(r), whole) || !proof.SameResult(r, aResult()) {
			t.Errorf("%d: what is turned in the spare room isn't seen", n)
		}
	}
}

// TestRuns: runs of chance are right, and unlike.
func TestRuns(t *testing.T) {
	d := proof.Dice(8)
	for _, throw := range []func() (api.Config, [][][]int64){d.Run, d.BusyRun} {
		rows, workers, shards := 0, [9]int{}, [65]int{}
		for range 500 {
			c, sessions := throw()
			if guard.Fits(c) != nil || c.Accounts != 3 || c.Assets != 2 || len(sessions) > api.MaxSessions || slices.ContainsFunc(sessions, func(l [][]int64) bool { return len(l) > api.MaxOps }) {
				t.Fatalf("%+v, sessions %v", c, sessions)
			}
			rows += len(slices.Concat(sessions...))
			workers[c.Workers]++
			shards[c.Shards]++
		}
		if rows < 5000 || min(workers[1], workers[2], workers[8]) < 20 || min(shards[1], shards[2], shards[64]) < 20 {
			t.Errorf("%d rows, workers %v, shards %v", rows, workers, shards)
		}
	}
}

func TestOverrunAndSpoilResult(t *testing.T) {
	r := proof.RoomyResult(aResult())
	if proof.OverrunResult(r); !proof.SameResult(r, aResult()) {
		t.Errorf("overrun, it is %+v", r)
	}
	// Two lists that share memory are found.
	r.Calls[2].Op.Legs = proof.Whole(r.Calls[0].Op.Legs)[1:]
	shared := slices.Clone(r.Calls[2].Op.Legs)
	for i := range r.Calls[2].Op.Legs {
		r.Calls[2].Op.Legs[i] = proof.Leg(1, 2, 3, 4, 5)
	}
	if proof.OverrunResult(r); !slices.Equal(r.Calls[2].Op.Legs, shared) {
		t.Errorf("the spare room is %v, not %v", r.Calls[2].Op.Legs, shared)
	}
	kept := r
	legs, marks, queue := r.Calls[0].Op.Legs, r.Calls[1].Answer.Positions[0].Marks, r.State.Queue
	proof.SpoilResult(r)
	if legs[0].Qty == 5 || marks[0].Qty == 1 || queue[0] == 8 || kept.Calls[0].Invoked == 1 || kept.Settles[0].Id == 6 {
		t.Errorf("spoilt, it is %+v", kept)
	}
}
