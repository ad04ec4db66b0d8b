package ledger

import (
	"testing"

	"custody/api"
	"custody/proof"
)

// TestPutBack: whatever was put to a draft, one thing over the other too, the books are behind putBack what they were.
func TestPutBack(t *testing.T) {
	leg := proof.Leg(0, 1, 0, 5, 0)
	record := func(status int) api.Cell { return api.Cell{Record: api.Record{Status: status, Legs: []api.Leg{leg}}} }
	holds := func(avail int64) api.Cell { return api.Cell{Position: proof.Position(avail, 7, 1)} }
	ahead := api.State{
		Balances:     []api.Balance{{Position: proof.Position(5)}, {Key: api.Key{Account: 1, Asset: 1}, Position: proof.Position(2, 7, 3)}},
		Instructions: []api.Instruction{{Id: 2, Record: record(api.Pending).Record}, {Id: 4, Record: record(api.Pending).Record}, {Id: 6, Record: record(api.Settled).Record}},
		Queue:        []int{4, 2},
	}
	type put struct {
		key  api.Key
		cell api.Cell
	}
	id := func(n int) api.Key { return api.Key{Account: -1, Asset: n} }
	for n, puts := range [][]put{
		nil,
		{{api.Key{}, holds(9)}},
		{{api.Key{}, api.Cell{}}, {api.Key{Account: 1, Asset: 1}, api.Cell{}}, {api.Key{Account: 2}, holds(1)}},
		{{api.Key{}, holds(9)}, {api.Key{}, holds(8)}, {api.Key{}, api.Cell{}}},
		{{id(3), record(api.Pending)}},
		{{id(3), record(api.Settled)}, {api.Key{Account: 2}, holds(1)}},
		{{id(4), record(api.Cancelled)}},
		{{id(4), record(api.Settled)}, {id(2), record(api.Settled)}, {id(3), record(api.Pending)}},
		{{id(3), record(api.Pending)}, {id(3), record(api.Cancelled)}, {id(2), record(api.Cancelled)}},
	} {
		b := opened(ahead)
		d := draftOf(b)
		for _, p := range puts {
			if d.Put(p.key, p.cell); !proof.SameCell(b.Get(p.key), p.cell) || !proof.SameCell(d.Get(p.key), p.cell) {
				t.Errorf("%d: behind Put %v is %+v; want %+v", n, p.key, b.Get(p.key), p.cell)
			}
		}
		if changed := !proof.SameState(b.state(), ahead); changed != (len(puts) > 0) {
			t.Errorf("%d: behind Put the state is %+v", n, b.state())
		}
		if d.putBack(); !proof.SameState(b.state(), ahead) {
			t.Errorf("%d: behind putBack the state is %+v", n, b.state())
		}
	}
}
