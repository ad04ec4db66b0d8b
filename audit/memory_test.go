package audit_test

import (
	"slices"
	"sync"
	"testing"

	"custody/api"
	"custody/audit"
	"custody/proof"
)

// R4: what is handed in is not changed, its spare room included, and that is not looked at.
func TestArgumentsStay(t *testing.T) {
	d := proof.Dice(2140)
	for range 2000 {
		g := right(t, &d)
		if d.Below(2) == 0 {
			g = twisted(&d, g)
		}
		r := proof.RoomyResult(g.r)
		ahead := proof.WholeResult(r)
		no, at := judged(g.c, g.r)
		if err := audit.Check(g.c, r); !tells(err, no, at) {
			t.Fatalf("%+v, %+v: with spare room Check is %v, not %v at %d", g.c, g.r, err, no, at)
		}
		if !slices.Equal(audit.Order(r), audit.Order(g.r)) {
			t.Fatalf("%+v: with spare room the order is %v", g.r, audit.Order(r))
		}
		found, err := audit.Search(g.c, r.Calls)
		if want, other := audit.Search(g.c, g.r.Calls); found != want || (err == nil) != (other == nil) {
			t.Fatalf("%+v: with spare room Search is %v %v", g.r.Calls, found, err)
		}
		if !proof.SameResult(proof.WholeResult(r), ahead) {
			t.Fatalf("%+v became %+v", ahead, proof.WholeResult(r))
		}
	}
}

// R4: an order is new memory, its spare room included; what was handed in is not kept.
func TestAnswersAreNew(t *testing.T) {
	d := proof.Dice(2141)
	for range 500 {
		g := right(t, &d)
		no, at := judged(g.c, g.r)
		found, _ := audit.Search(g.c, g.r.Calls)
		want := slices.Clone(audit.Order(g.r))
		r := proof.RoomyResult(g.r)
		one, two := audit.Order(r), audit.Order(r)
		err := audit.Check(g.c, r)
		proof.SpoilResult(r)
		if !slices.Equal(one, want) || !tells(err, no, at) {
			t.Fatalf("%+v: what was handed in is kept: %v %v", g.r, one, err)
		}
		for i := range proof.Whole(one) {
			proof.Whole(one)[i] = -1
		}
		again, _ := audit.Search(g.c, g.r.Calls)
		if !slices.Equal(two, want) || !slices.Equal(audit.Order(g.r), want) || again != found {
			t.Fatalf("%+v: orders share memory: %v, not %v", g.r, two, want)
		}
	}
}

// R3: nil and an empty list mean the same.
func TestEmptyLists(t *testing.T) {
	empty := api.Result{Calls: []api.Call{}, Settles: []api.Settle{}}
	if len(audit.Order(empty)) != 0 || audit.Check(small(), empty) != nil {
		t.Errorf("%v %v", audit.Order(empty), audit.Check(small(), empty))
	}
	if found, err := audit.Search(small(), []api.Call{}); !found || err != nil {
		t.Errorf("Search is %v %v", found, err)
	}
	marks := each(call(snapshot(0, 0), 1, 2, 0, shows(api.Position{Marks: []api.Mark{}})), call(snapshot(), 1, 2, 0, api.Answer{Positions: []api.Position{}}))
	judge(t, "empty marks and positions", small(), api.Result{Calls: marks}, api.OK, nowhere)
	seek(t, "empty marks and positions", small(), marks, true)
}

// R5: the same is answered each time, also when others ask at the same time.
func TestSameEachTime(t *testing.T) {
	d := proof.Dice(2142)
	var games []game
	for range 200 {
		games = append(games, twisted(&d, right(t, &d)))
	}
	var all sync.WaitGroup
	for _, g := range games {
		no, at := judged(g.c, g.r)
		want := audit.Order(g.r)
		sought, _ := audit.Search(g.c, g.r.Calls)
		for range 3 {
			all.Go(func() {
				found, _ := audit.Search(g.c, g.r.Calls)
				if err := audit.Check(g.c, g.r); !tells(err, no, at) || !slices.Equal(audit.Order(g.r), want) || found != sought {
					t.Errorf("%+v, %+v: %v %v %v", g.c, g.r, err, audit.Order(g.r), found)
				}
			})
		}
	}
	all.Wait()
}
