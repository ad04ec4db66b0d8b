package audit

import (
	"slices"

	"custody/api"
	"custody/ledger"
)

// found tells whether an order of calls is found that a ledger could have answered. A state that was reached behind the same calls before led to none, and is not tried again.
func found(c api.Config, calls []api.Call) bool {
	tried := map[uint][]api.State{} // by the calls that are done, a bit each
	var try func(done uint, s api.State) bool
	try = func(done uint, s api.State) bool {
		left := open(calls, done)
		if !slices.ContainsFunc(left, hasReturned) {
			return true
		}
		if slices.ContainsFunc(tried[done], func(old api.State) bool { return sameState(old, s) }) {
			return false
		}
		tried[done] = append(tried[done], s)
		for i, x := range calls {
			if done>>i&1 == 1 || !isNext(x, left) {
				continue
			}
			if behind, ok := did(c, s, x); ok && try(done|1<<i, behind) {
				return true
			}
		}
		return slices.ContainsFunc(settled(c, s), func(behind api.State) bool { return try(done, behind) })
	}
	return try(0, api.State{})
}

// open are the calls that are not done.
func open(calls []api.Call, done uint) []api.Call {
	var l []api.Call
	for i, x := range calls {
		if done>>i&1 == 0 {
			l = append(l, x)
		}
	}
	return l
}

// isNext tells whether a call may be done ahead of all that are left.
func isNext(x api.Call, left []api.Call) bool {
	return !slices.ContainsFunc(left, func(other api.Call) bool { return wasOver(other.Returned, x.Invoked) })
}

// did is the state behind a call, if it is done there as it is told. One that hasn't returned and changes nothing is as good as left out.
func did(c api.Config, s api.State, x api.Call) (api.State, bool) {
	books := loaded(c, s)
	a, behind := answered(books, x), plain(books)
	if hasReturned(x) && !sameAnswer(a, x.Answer) || !hasReturned(x) && sameState(behind, s) {
		return api.State{}, false
	}
	return behind, true
}

// settled are the states behind each settlement that could come next.
func settled(c api.Config, s api.State) []api.State {
	var l []api.State
	for _, id := range s.Queue {
		if books := loaded(c, s); books.Settle(id) {
			l = append(l, plain(books))
		}
	}
	return l
}

// loaded is a ledger in a state that one of this configuration was in, which is not refused.
func loaded(c api.Config, s api.State) *ledger.Ledger {
	books, _ := ledger.Load(c, s)
	return books
}

// plain is a ledger's state with a queue that is sorted: nothing that is asked here hangs on the queue's order, and states that differ by it alone need not be tried each.
func plain(books *ledger.Ledger) api.State {
	s := books.State()
	slices.Sort(s.Queue)
	return s
}
