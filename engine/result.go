package engine

import (
	"custody/api"
	"custody/balance"
)

// result is what a run with this trace came to.
func (r *run) result(x api.Trace) api.Result {
	out := api.Result{Calls: r.toldCalls(), Settles: r.toldSettles(), Quiet: !x.Cut, Turns: x.Turns}
	for _, mutex := range x.Waiting {
		if mutex >= 0 {
			out.Stuck++
		}
	}
	if out.Quiet {
		out.State = r.state()
	}
	return out
}

// toldCalls are the operations of all sessions, each with the number that its transaction has when the run is over.
func (r *run) toldCalls() []api.Call {
	var l []api.Call
	for _, row := range r.calls {
		for _, e := range row {
			if e.number != nil {
				e.told.Number = e.number()
			}
			l = append(l, e.told)
		}
	}
	return l
}

// toldSettles are the settlements, by their numbers.
func (r *run) toldSettles() []api.Settle {
	var l []api.Settle
	for _, e := range r.settles {
		e.told.Number = e.number()
		l = append(l, e.told)
	}
	return l
}

// state is what the cells and the queue hold. It may have the lists of the newest cells as they are: the run is over, and nobody else was told them. Keys rise, and so do ids, which are the assets of records' keys.
func (r *run) state() api.State {
	s := api.State{Queue: r.queue.Items()}
	for _, k := range r.cells.Keys() {
		c, _ := r.cells.Last(k)
		switch {
		case k.Account == ofRecords:
			s.Instructions = append(s.Instructions, api.Instruction{Id: k.Asset, Record: c.Record})
		case balance.Total(c.Position) > 0:
			s.Balances = append(s.Balances, api.Balance{Key: k, Position: c.Position})
		}
	}
	return s
}
